/- A triple's terms, in an array: package triples' terms. -/
import Derived.Test.YtnojdchodmogbaaTripPlain
import Derived.Test.YtnojdchodmogbaaTermCompare
namespace Go.Proofs.Ytnojdchodmogbaa
open Go.RowKit

set_option maxHeartbeats 400000 in
theorem terms_calls (k : Int) (x y z : ByteArray) (k' : Int) (x' y' z' : ByteArray) (k'' : Int) (x'' y'' z'' : ByteArray) (w : World) :
    Calls Try.prog 39 #[.agg #[.int .i64 k, .string x, .string y, .string z, .int .i64 k', .string x', .string y', .string z', .int .i64 k'', .string x'', .string y'', .string z'']] w fun e w' => e = .returned (.agg #[.int .i64 k, .string x, .string y, .string z, .int .i64 k', .string x', .string y', .string z', .int .i64 k'', .string x'', .string y'', .string z'']) ∧ Below w.heap.size w w' := by
  go_enter Try.func39, Try.ntmps39
  go_wp2
  refine bodyPost_ret (v := .agg #[.int .i64 k, .string x, .string y, .string z, .int .i64 k', .string x', .string y', .string z', .int .i64 k'', .string x'', .string y'', .string z'']) (by simp [results, Try.results39, go_sem]) rfl ⟨rfl, ?_⟩
  exact two_alloc _ _ _

end Go.Proofs.Ytnojdchodmogbaa
