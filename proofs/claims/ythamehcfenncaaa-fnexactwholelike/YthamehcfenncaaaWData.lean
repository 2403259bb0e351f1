/- Processes and configurations as plain data. -/
import Derived.Test.YthamehcfenncaaaSl
namespace Go.Proofs.Ythamehcfenncaaa

structure ProcP where
  regs : List Int
  todo : SL
  mode : Int
  on : Int
  room : Int

structure WorldP where
  procs : List ProcP
  cells : List Int
  rooms : List Int
  signs : List (List Int)
  said : List Int

end Go.Proofs.Ythamehcfenncaaa
