
/- The walk of law02.TakerNobody lies in TkrI. -/
import Derived.Test.YtlppjndkflfgaaaTkrI
namespace Go.Proofs.Ytlppjndkflfgaaa

end Go.Proofs.Ytlppjndkflfgaaa
