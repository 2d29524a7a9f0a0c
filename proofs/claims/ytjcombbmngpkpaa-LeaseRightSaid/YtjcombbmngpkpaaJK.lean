/-
  The program's sessions: two are compared.
-/
import Derived.Test.YtjcombbmngpkpaaJH
import Derived.Test.YtjcombbmngpkpaaR4
namespace Go.Proofs.Ytjcombbmngpkpaa
open Go.RowKit

theorem fSessP : (Try.prog.fieldsOf 56).toList.map (fun f => (f.name == "_", f.type, f.offset)) = [(false, 3, 0), (false, 3, 1), (false, 3, 2)] := by kernel_rfl
theorem uSessP : Try.prog.underlying 56 = some (.struct (Try.prog.fieldsOf 56)) := by kernel_rfl
theorem run_neqESe (x y : Se) (w : World) : (binOp .neq 56 (.agg #[.int .i64 (sI x), .int .i64 (sP x), .int .i64 (sU x)]) (.agg #[.int .i64 (sI y), .int .i64 (sP y), .int .i64 (sU y)])).run Try.prog w = .ok (.bool !decide (x = y)) w := by
  rw [run_neq_struct, run_equalIn_struct w 9999 _ _ _ uSessP (by kernel_rfl), show (#[.int .i64 (sI x), .int .i64 (sP x), .int .i64 (sU x)] : Array Value) = (sec x).toArray from rfl, show (#[.int .i64 (sI y), .int .i64 (sP y), .int .i64 (sU y)] : Array Value) = (sec y).toArray from rfl, eqFields_se 9998 x y w _ fSessP]
  rfl
end Go.Proofs.Ytjcombbmngpkpaa
