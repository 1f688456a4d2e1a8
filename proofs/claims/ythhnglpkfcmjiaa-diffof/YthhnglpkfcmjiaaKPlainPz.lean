/- A step of a patch as data, and as a value. -/
import Derived.Test.YthhnglpkfcmjiaaKPlainVt
import Derived.Test.YthhnglpkfcmjiaaKFlV
import Derived.Lib.Strings
namespace Go.Proofs.Ythhnglpkfcmjiaa
open Go.RowKit
set_option linter.unusedVariables false
set_option linter.unusedSimpArgs false
/-- A step of a patch. -/
structure Pa where
  kd : Int
  k : St
  pa : St
  af : St
  nm : ByteArray
  vl : ByteArray
/-- A step as a value. -/
def paCells (p : Pa) : List Value := [.int .i64 p.kd, .int .i64 p.k.1, .int .i64 p.k.2, .int .i64 p.pa.1, .int .i64 p.pa.2, .int .i64 p.af.1, .int .i64 p.af.2, .string p.nm, .string p.vl]
def paV (p : Pa) : Value := .agg #[.int .i64 p.kd, .int .i64 p.k.1, .int .i64 p.k.2, .int .i64 p.pa.1, .int .i64 p.pa.2, .int .i64 p.af.1, .int .i64 p.af.2, .string p.nm, .string p.vl]
theorem pzLen (p : Pa) : (paCells p).length = 9 := rfl
end Go.Proofs.Ythhnglpkfcmjiaa
