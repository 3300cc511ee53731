
/- The walk of law02.TakerPlays lies in TkrI. -/
import Derived.Test.YtlppjndkflfgaaaTkrI
namespace Go.Proofs.Ytlppjndkflfgaaa

end Go.Proofs.Ytlppjndkflfgaaa
