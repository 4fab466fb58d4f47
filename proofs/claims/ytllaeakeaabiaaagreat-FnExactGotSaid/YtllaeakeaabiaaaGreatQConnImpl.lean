/- The program's Conn, as it is called. -/
import Derived.Test.YtllaeakeaabiaaaGreatQLinkGot
namespace Go.Proofs.YtllaeakeaabiaaaGreat
end Go.Proofs.YtllaeakeaabiaaaGreat
