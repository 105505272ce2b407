/- FrameGets, walked. -/
import Derived.Test.YtgeboanebdmebaaFO
import Derived.Test.YtgeboanebdmebaaFP
namespace Go.Proofs.Ytgeboanebdmebaa.F
open Go.Proofs.Ytgeboanebdmebaa Go.RowKit Go.By
set_option linter.unusedVariables false
set_option linter.unusedSimpArgs false
set_option maxRecDepth 20000
attribute [local go_sem ↓] Go.wp_at_zero Go.wp_at_succ

/-- A packet of one's own, new. -/
def PN (w W : World) (x1 x2 x3 : Int) (x4 : ByteArray) (Y : World) : Prop := Below w.heap.size w Y ∧ Y.heap[W.heap.size]? = some (.cells #[.int .i64 x1, .int .i64 x2, .int .i64 x3, .string x4] 42 (0, 0))
theorem pn_new {w W : World} (h : Below w.heap.size w W) (x1 x2 x3 : Int) (x4 : ByteArray) : PN w W x1 x2 x3 x4 (W.alloc (.cells #[.int .i64 x1, .int .i64 x2, .int .i64 x3, .string x4] 42)) :=
  ⟨h.alloc h.size _, World.alloc_heap_new W _⟩
theorem pn_up {w W Y Y' : World} {x1 x2 x3 : Int} {x4 : ByteArray} (h : PN w W x1 x2 x3 x4 Y) (hb : Below Y.heap.size Y Y') : PN w W x1 x2 x3 x4 Y' :=
  ⟨h.1.trans (hb.mono h.1.size), (hb.block _ (lt_of_heap h.2)).trans h.2⟩

set_option maxHeartbeats 2000000 in
theorem gets_walk (a : Option Addr) (l : List Nat) (n cap : Nat) (w : World) (hn : l.length = n) (hL : Came w.heap.size w a l) (hm : n ≤ 4000) (hcap : n ≤ cap) (hmx : cap ≤ maxLen) :
    Calls Try.prog 7 #[.slice a n cap] w fun e W' => e = .returned (.bool true) ∧ Below w.heap.size w W' := by
  have H24 := hide (fun W (hb : Below w.heap.size w W) => get_any a l n cap W hn ((hL.below hb).mono hb.size) (by omega) hcap hmx)
  have H25 := hide (fun W (hb : Below w.heap.size w W) => rget_any a l n cap W hn ((hL.below hb).mono hb.size) (by omega) hcap hmx)
  have hm' : ¬ (4000 : Int) < (n : Int) := by omega
  clear hn hL hm hcap hmx
  unfold GetOut at H24 H25
  generalize getP l = R at *
  obtain ⟨⟨x1, x2, x3, x4⟩, sz, z⟩ := R
  go_enter Try.func7, Try.ntmps7
  go_wp2_with (first
    | (go_at_call 24; refine (H24.out _ (Below.refl _ _)).mono ?_; rintro e W1 ⟨rfl, hb⟩; have HP1 := hide (pn_new hb x1 x2 x3 x4); clear hb H24)
    | (go_at_call 25; refine (H25.out _ HP1.out.1).mono ?_; rintro e W2 ⟨rfl, hb⟩; have HP2 := hide (pn_up HP1.out hb); have HP3 := hide (pn_new HP2.out.1 x1 x2 x3 x4); have HP4 := hide (pn_up HP2.out (pupI W2 x1 x2 x3 x4).1); obtain ⟨c0, c1, c2, c3⟩ := pk_cells HP3.out.2; obtain ⟨d0, d1, d2, d3⟩ := pk_cells HP4.out.2; clear hb H25)
    | (go_at_call 19; refine (lives_any _).mono ?_; rintro e W3 ⟨rfl, hb⟩; have HP5 := hide (pn_up HP3.out hb); clear hb))
  go_ret
  exact ⟨rfl, HP5.out.1⟩

theorem gets_big (a : Option Addr) (n cap : Nat) (w : World) (hm : 4000 < n) :
    Calls Try.prog 7 #[.slice a n cap] w fun e W' => e = .returned (.bool true) ∧ Below w.heap.size w W' := by
  have hm' : (4000 : Int) < (n : Int) := by omega
  clear hm
  go_enter Try.func7, Try.ntmps7
  go_wp2_with (go_at_call 19; refine (lives_any _).mono ?_; rintro e W3 ⟨rfl, hb⟩; have HB := hide hb; clear hb)
  go_ret
  exact ⟨rfl, HB.out⟩

theorem gets_any (a : Option Addr) (n cap : Nat) (zs : List Int) (w : World) (h : IsRow .u8 w a n cap zs) :
    Calls Try.prog 7 #[.slice a n cap] w fun e W' => e = .returned (.bool true) ∧ Below w.heap.size w W' := by
  by_cases hm : n ≤ 4000
  · obtain ⟨l, hl, hc, hx, hL⟩ := came_of_row h
    exact gets_walk a l n cap w hl hL hm hc hx
  · exact gets_big a n cap w (by omega)
end Go.Proofs.Ytgeboanebdmebaa.F
