/-
  Contracts of package rtt's functions: Sample, Greatest, Held.
-/
import Derived.Test.YtdfjceghhjecaaaRttZ
namespace Go.Proofs.Ytdfjceghhjecaaa.Rtt
open Go.RowKit RttM Wd
set_option linter.unusedVariables false
set_option linter.unusedSimpArgs false

set_option maxRecDepth 100000 in
theorem mn_min (a b : Int) : min a b = if b < a then b else a := by omega
end Go.Proofs.Ytdfjceghhjecaaa.Rtt
