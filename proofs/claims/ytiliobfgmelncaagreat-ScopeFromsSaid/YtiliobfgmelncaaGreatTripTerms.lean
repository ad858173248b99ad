/- A triple's terms, in an array: package triples' terms. -/
import Derived.Test.YtiliobfgmelncaaGreatTripPlain
import Derived.Test.YtiliobfgmelncaaGreatTermCompare
namespace Go.Proofs.YtiliobfgmelncaaGreat
open Go.RowKit

set_option maxHeartbeats 400000 in
theorem terms_calls (k : Int) (x y z : ByteArray) (k' : Int) (x' y' z' : ByteArray) (k'' : Int) (x'' y'' z'' : ByteArray) (w : World) :
    Calls Tryz.prog 84 #[.agg #[.int .i64 k, .string x, .string y, .string z, .int .i64 k', .string x', .string y', .string z', .int .i64 k'', .string x'', .string y'', .string z'']] w fun e w' => e = .returned (.agg #[.int .i64 k, .string x, .string y, .string z, .int .i64 k', .string x', .string y', .string z', .int .i64 k'', .string x'', .string y'', .string z'']) ∧ Below w.heap.size w w' := by
  go_enter Tryz.func84, Tryz.ntmps84
  go_wp2
  refine bodyPost_ret (v := .agg #[.int .i64 k, .string x, .string y, .string z, .int .i64 k', .string x', .string y', .string z', .int .i64 k'', .string x'', .string y'', .string z'']) (by simp [results, Tryz.results84, go_sem]) rfl ⟨rfl, ?_⟩
  exact two_alloc _ _ _

end Go.Proofs.YtiliobfgmelncaaGreat
