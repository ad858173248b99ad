/- A triple's terms, in an array: package triples' terms. -/
import Derived.Test.YtiliobfgmelncaaTripPlain
import Derived.Test.YtiliobfgmelncaaTermCompare
namespace Go.Proofs.Ytiliobfgmelncaa
open Go.RowKit

set_option maxHeartbeats 400000 in
theorem terms_calls (k : Int) (x y z : ByteArray) (k' : Int) (x' y' z' : ByteArray) (k'' : Int) (x'' y'' z'' : ByteArray) (w : World) :
    Calls Try.prog 77 #[.agg #[.int .i64 k, .string x, .string y, .string z, .int .i64 k', .string x', .string y', .string z', .int .i64 k'', .string x'', .string y'', .string z'']] w fun e w' => e = .returned (.agg #[.int .i64 k, .string x, .string y, .string z, .int .i64 k', .string x', .string y', .string z', .int .i64 k'', .string x'', .string y'', .string z'']) ∧ Below w.heap.size w w' := by
  go_enter Try.func77, Try.ntmps77
  go_wp2
  refine bodyPost_ret (v := .agg #[.int .i64 k, .string x, .string y, .string z, .int .i64 k', .string x', .string y', .string z', .int .i64 k'', .string x'', .string y'', .string z'']) (by simp [results, Try.results77, go_sem]) rfl ⟨rfl, ?_⟩
  exact two_alloc _ _ _

end Go.Proofs.Ytiliobfgmelncaa
