/- The model of putting and getting: how they begin. -/
import Derived.Test.YtdogpnopioefmaaL8
namespace Go.Proofs.Ytdogpnopioefmaa
open Go.RowKit

set_option maxRecDepth 100000 in
set_option maxHeartbeats 2000000 in
theorem specPutBegun (h : Hd) (i : Int) (w : World) :
    Calls Try.prog 15 #[.agg #[.int .i64 h.at_, .int .i64 h.code, .int .i64 h.val, .int .i64 h.ring, .int .i64 h.tick, .int .i64 h.word, .int .i64 h.tail, .int .i64 h.head, .int .i64 h.index, .int .i64 h.begin_, .int .i64 h.reply, .int .i64 h.out], .int .i64 i] w fun e w' => e = .returned (.agg #[.int .i64 1, .int .i64 h.code, .int .i64 h.val, .int .i64 h.ring, .int .i64 0, .int .i64 0, .int .i64 0, .int .i64 0, .int .i64 i, .int .i64 h.begin_, .int .i64 h.reply, .int .i64 h.out]) ∧ Below w.heap.size w w' := by
  go_enter Try.func15, Try.ntmps15
  go_wp2
  refine bodyPost_ret (v := .agg #[.int .i64 1, .int .i64 h.code, .int .i64 h.val, .int .i64 h.ring, .int .i64 0, .int .i64 0, .int .i64 0, .int .i64 0, .int .i64 i, .int .i64 h.begin_, .int .i64 h.reply, .int .i64 h.out]) ?ret rfl ⟨rfl, ((Below.refl _ _).alloc (Nat.le_refl _) _).alloc (by simp) _⟩
  case ret => simp [results, Try.results15, go_sem]

end Go.Proofs.Ytdogpnopioefmaa
