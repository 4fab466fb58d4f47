/- Chapter 11's program: all its contracts. -/
import Derived.Test.YteojibdnphaooaaTurnImpl5
namespace Go.Proofs.Yteojibdnphaooaa
end Go.Proofs.Yteojibdnphaooaa
