/- The walk of law02.TakerOwn. -/
import Derived.Test.YtmnkikkffmhnjaaTakG
namespace Go.Proofs.Ytmnkikkffmhnjaa
end Go.Proofs.Ytmnkikkffmhnjaa
