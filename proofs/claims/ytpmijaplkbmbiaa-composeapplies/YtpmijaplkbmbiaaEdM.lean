/- Idle; the examples, walked. -/
import Derived.Test.YtpmijaplkbmbiaaEdL
namespace Go.Proofs.Ytpmijaplkbmbiaa.E
open Go.Proofs.Ytpmijaplkbmbiaa Go.RowKit Go.By Go.Shelf
set_option linter.unusedVariables false
set_option linter.unusedSimpArgs false

theorem came_up {W W' : World} {a : Option Addr} {rs : List Rn} (h : CameR W.heap.size W a rs) (hb : Below W.heap.size W W') : CameR W'.heap.size W' a rs := by
  rcases h with h | ⟨b, off, e, hl, hc⟩
  · exact .inl h
  · exact .inr ⟨b, off, e, Nat.lt_of_lt_of_le hl hb.size, fun i hi => ⟨(hb.cell (p := ⟨b, _, none⟩) hl).trans (hc i hi).1, (hb.cell (p := ⟨b, _, none⟩) hl).trans (hc i hi).2.1, (hb.cell (p := ⟨b, _, none⟩) hl).trans (hc i hi).2.2⟩⟩

theorem rsame_is (a a' : Option Addr) (cap cap' : Nat) (rs rs' : List Rn) (w : World) (hS : CameR w.heap.size w a rs) (hS' : CameR w.heap.size w a' rs') (hl : rs.length ≤ 1000000) (he : rs = rs') :
    Calls Try.prog 59 #[.slice a rs.length cap, .slice a' rs'.length cap'] w fun e W' => e = .returned (.bool true) ∧ Below w.heap.size w W' :=
  (rsame_any a a' cap cap' rs rs' w hS hS' hl).mono fun e W' ⟨h1, h2⟩ => ⟨by rw [h1, decide_eq_true he], h2⟩

theorem up_new {W : World} {a : Option Addr} {rs : List Rn} (h : CameR W.heap.size W a rs) (o : Obj) : CameR (W.alloc o).heap.size (W.alloc o) a rs := came_up h ((Below.refl _ W).alloc (Nat.le_refl _) o)

set_option maxRecDepth 20000 in
set_option maxHeartbeats 4000000 in
theorem lives_any (w : World) : Calls Try.prog 50 #[] w fun e W' => e = .returned (.bool true) ∧ Below w.heap.size w W' := by
  have hI : Calls Try.prog 63 #[.int .i64 2, .int .i64 1, .string ⟨#[120]⟩] w fun e W' => ∃ a c, e = .returned (.tuple #[.slice a 3 c, .int .i64 0]) ∧ Hid (CameR W'.heap.size W' a [⟨1, ⟨#[]⟩, 0⟩, ⟨0, ⟨#[120]⟩, 0⟩, ⟨1, ⟨#[]⟩, 0⟩]) ∧ Hid (Below w.heap.size w W') :=
    (insert_any 2 1 ⟨#[120]⟩ w).mono fun e W' ⟨a, c, he, hc, hb⟩ => by
      rw [lives_one.1, lives_one.2] at he
      rw [lives_one.2] at hc
      exact ⟨a, c, he, hc, hb⟩
  have hN : ∀ W, Calls Try.prog 60 #[.slice (some ⟨W.heap.size, 0, none⟩) 3 3] (W.alloc (.cells #[.int .i64 0, .string ⟨#[]⟩, .int .i64 1, .int .i64 0, .string ⟨#[120]⟩, .int .i64 0, .int .i64 0, .string ⟨#[]⟩, .int .i64 2] 91)) fun e W' => ∃ a c, e = .returned (.slice a 2 c) ∧ Hid (CameR W'.heap.size W' a [⟨0, ⟨#[120]⟩, 0⟩, ⟨0, ⟨#[]⟩, 3⟩]) ∧ Hid (Below W.heap.size W W') := fun W =>
    (norm_new W [⟨0, ⟨#[]⟩, 1⟩, ⟨0, ⟨#[120]⟩, 0⟩, ⟨0, ⟨#[]⟩, 2⟩] 3 (by simp)).mono fun e W' ⟨a, c, he, hc, hb⟩ => by
      rw [lives_two] at he hc
      exact ⟨a, c, he, hc, hb⟩
  go_enter Try.func50, Try.ntmps50
  go_wp2_with (go_at_call 63; refine hI.mono ?_; rintro e W1 ⟨a, c, rfl, HC, HB⟩)
  go_wp2_with (go_at_call 59; refine (rsame_is a (some ⟨W1.heap.size, 0, none⟩) c 3 _ [⟨1, ⟨#[]⟩, 0⟩, ⟨0, ⟨#[120]⟩, 0⟩, ⟨1, ⟨#[]⟩, 0⟩] _ (up_new HC.out _) (came_new W1 _) (by simp) rfl).mono ?_; rintro e W2 ⟨rfl, hb2⟩; have HB2 := hide hb2; clear hb2)
  go_wp2_with (go_at_call 60; refine (hN W2).mono ?_; rintro e W3 ⟨a3, c3, rfl, HC3, HB3⟩)
  go_wp2_with (go_at_call 59; refine (rsame_is a3 (some ⟨W3.heap.size, 0, none⟩) c3 2 _ [⟨0, ⟨#[120]⟩, 0⟩, ⟨0, ⟨#[]⟩, 3⟩] _ (up_new HC3.out _) (came_new W3 _) (by simp) rfl).mono ?_; rintro e W4 ⟨rfl, hb4⟩; have HB4 := hide hb4; clear hb4)
  go_ret
  refine ⟨rfl, ?_⟩
  have s1 := HB.out.size
  have b1 := HB.out.alloc s1 (.cells (cellsR [⟨1, ⟨#[]⟩, 0⟩, ⟨0, ⟨#[120]⟩, 0⟩, ⟨1, ⟨#[]⟩, 0⟩]).toArray 91)
  have b2 := b1.trans (HB2.out.mono b1.size)
  have b3 := b2.trans (HB3.out.mono b2.size)
  have b4 := b3.alloc b3.size (.cells (cellsR [⟨0, ⟨#[120]⟩, 0⟩, ⟨0, ⟨#[]⟩, 3⟩]).toArray 91)
  exact b4.trans (HB4.out.mono b4.size)

theorem idle_eq {rs : List Rn} (h : isG rs = true) : decide (rs = nothR (mIn (meas rs))) = idleB rs := by
  obtain ⟨j, hm, h1, h2, h3⟩ := good_facts h
  rw [idleB, h, Bool.true_and]
  apply decide_eq_decide.2
  rw [hm]
  show rs = nothR ((tIn (expand rs) : Nat) : Int) ↔ _
  constructor
  · intro e
    by_cases hz : rs.length = 0
    · exact .inl hz
    · right
      unfold nothR at e
      split at e
      · rw [e] at hz; simp at hz
      · rename_i hn
        rw [e]
        refine ⟨rfl, ?_⟩
        exact kind_one (by omega) nil_toList rfl
  · rintro (hz | ⟨hz, hk⟩)
    · obtain rfl := List.eq_nil_of_length_eq_zero hz; rfl
    · match rs, hz with
      | [r], _ =>
        have hk' : kind r = 1 := hk
        rcases kind_cases (r := r) (by omega) with ⟨n, hn, rfl⟩ | ⟨a, ha, rfl⟩ | ⟨n, hn, rfl⟩
        · rw [expand_one, toks_rK hn, tIn_K] at h1 ⊢
          rw [nothR, if_neg (by omega)]; rfl
        · rw [kind_rA ha] at hk'; omega
        · rw [kind_rD hn] at hk'; omega

set_option maxRecDepth 20000 in
set_option maxHeartbeats 4000000 in
theorem idle_any (a : Option Addr) (cap : Nat) (rs : List Rn) (w : World) (hS : CameR w.heap.size w a rs) (hl : rs.length ≤ 1000000) :
    Calls Try.prog 57 #[.slice a rs.length cap] w fun e W' => e = .returned (.bool (idleB rs)) ∧ Below w.heap.size w W' := by
  have hm := measure_eq a cap rs w hS hl
  go_enter Try.func57, Try.ntmps57
  cases hG : isG rs with
  | false =>
    have hG' : (meas rs).isSome = false := hG
    have HQ : Hid (idleB rs = false) := hide (by rw [idleB, hG]; rfl)
    rw [hG'] at hm
    go_wp2_with (go_at_call 99; refine hm.mono ?_; rintro e W1 ⟨rfl, hb⟩; have HB := hide hb; clear hb)
    go_ret
    exact ⟨ret_bool HQ.out.symm, HB.out.alloc HB.out.size _⟩
  | true =>
    have hG' : (meas rs).isSome = true := hG
    have HQ := hide (idle_eq hG)
    rw [hG'] at hm
    have HS := hide hS
    clear hS
    go_wp2_with (go_at_call 99; refine hm.mono ?_; rintro e W1 ⟨rfl, hb⟩; have HB := hide hb; clear hb)
    go_wp2_with (go_at_call 67; refine (nothing_any _ _).mono ?_; rintro e W2 ⟨a2, c2, rfl, hc2, hb2⟩; have HC2 := hide hc2; have HB2 := hide (((HB.out.alloc HB.out.size _).trans (hb2.mono (HB.out.alloc HB.out.size _).size) : Below w.heap.size w W2)); clear hc2 hb2)
    go_wp2_with (go_at_call 62; refine (same_any a a2 cap c2 rs _ _ (came_up HS.out HB2.out) HC2.out hl).mono ?_; rintro e W3 ⟨rfl, hb3⟩; have HB3 := hide hb3; clear hb3)
    go_ret
    exact ⟨ret_bool HQ.out, HB2.out.trans (HB3.out.mono HB2.out.size)⟩

end Go.Proofs.Ytpmijaplkbmbiaa.E
