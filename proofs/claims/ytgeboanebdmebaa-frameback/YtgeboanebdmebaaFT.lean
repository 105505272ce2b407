/- FrameBack, walked. -/
import Derived.Test.YtgeboanebdmebaaFS
namespace Go.Proofs.Ytgeboanebdmebaa.F
open Go.Proofs.Ytgeboanebdmebaa Go.RowKit Go.By
set_option linter.unusedVariables false
set_option linter.unusedSimpArgs false
set_option maxRecDepth 20000
attribute [local go_sem ↓] Go.wp_at_zero Go.wp_at_succ

theorem frameL_len (a b c : Int) (s : ByteArray) (hs : s.size ≤ 2000) : 0 < (frameL a b c s).length ∧ (frameL a b c s).length ≤ 2060 := by
  have hb := bodyL_len a b c s
  have hp := putI_len ((bodyL a b c s).length : Nat)
  have hsl := Crc.sealed_length (bodyL a b c s)
  rw [frameL, List.length_append]
  omega

/-- The frame that Put tells, in a row of its own. -/
theorem put_row (a b c : Int) (s : ByteArray) (w : World) (hg : goodP a b c s = true) (hs : s.size ≤ 2000) :
    Calls Try.prog 20 #[.agg #[.int .i64 a, .int .i64 b, .int .i64 c, .string s]] w fun e W' => ∃ g q, e = .returned (.tuple #[.slice (some ⟨g, 0, none⟩) (frameL a b c s).length q, .int .i64 0]) ∧ Lies W' (some ⟨g, 0, none⟩) (frameL a b c s) ∧ (frameL a b c s).length ≤ q ∧ w.heap.size ≤ g ∧ Below w.heap.size w W' := by
  refine (put_good a b c s w hg hs).mono ?_
  rintro e W' ⟨v, rfl, ho, hb⟩
  obtain ⟨u, q, rfl, hq, _, hL, hnil, hx⟩ := ho.form
  have hpos := (frameL_len a b c s hs).1
  cases u with
  | none => have := (hnil rfl).1; rw [this] at hpos; simp at hpos
  | some x =>
    obtain ⟨h1, h2, h3, h4⟩ := hx x rfl
    obtain ⟨xb, xo, xs⟩ := x
    simp only at h1 h2 h3 h4
    subst h3 h4
    exact ⟨xb, q, rfl, hL, hq, h1, hb⟩

set_option maxHeartbeats 2000000 in
theorem back_walk (x1 x2 x3 : Int) (x4 : ByteArray) (ad : Option Addr) (m2 : List Nat) (m cap : Nat) (w : World) (hg : goodP x1 x2 x3 x4 = true) (hs : x4.size ≤ 2000) (hm : m2.length = m) (hmm : m ≤ 2000) (hM : Go.By.Came w.heap.size w ad m2) (hnil : ad = none → m2 = [] ∧ cap = 0) :
    Calls Try.prog 8 #[.agg #[.int .i64 x1, .int .i64 x2, .int .i64 x3, .string x4], .slice ad m cap] w fun e W' => e = .returned (.bool true) ∧ Below w.heap.size w W' := by
  have hx := pk_new w x1 x2 x3 x4
  obtain ⟨k0, k1, k2, k3⟩ := hx.cells
  have HX0 := hide hx
  have HG : Hid (∀ W, Calls Try.prog 22 #[.agg #[.int .i64 x1, .int .i64 x2, .int .i64 x3, .string x4]] W fun e W' => e = .returned (.bool true) ∧ Below W.heap.size W W') := hide fun W => by rw [← hg]; exact good_any x1 x2 x3 x4 W
  have HP := hide (fun W => put_row x1 x2 x3 x4 W hg hs)
  have HF := hide (getP_frame hg hs m2)
  have HL := hide (frameL_len x1 x2 x3 x4 hs)
  have HM := hide hM
  have HN := hide hnil
  have HMM := hide (And.intro hm hmm)
  have n1 : ¬ (2000 : Int) < (x4.size : Int) := by omega
  have n2 : ¬ (2000 : Int) < (m : Int) := by omega
  clear hx hg hs hM hnil hm hmm
  generalize frameL x1 x2 x3 x4 = l at *
  obtain ⟨n, hn⟩ : ∃ n, l.length = n := ⟨_, rfl⟩
  rw [hn] at HP HL
  rw [hn] at HF
  have HNL := hide hn
  clear hn
  have hs3 : ∀ (g q : Nat), n ≤ q → ∀ W, (Instr.slice 28 (.slice (some ⟨g, 0, none⟩) n q) none (some (.int .i64 (n : Int))) (some (.int .i64 (n : Int)))).run Try.prog W = .ok (.slice (some ⟨g, 0, none⟩) n n) W := by
    intro g q hq W
    rw [run_slice_hm W 28 _ n q (by exact Try.underlying28) .i64 .i64 n n (by omega) (by omega) (by omega)]
    have hz : (sizeOf (Try.prog.elem 28)).run Try.prog W = .ok 1 W := by kernel_rfl
    rw [hz]
    simp [Result.andThen, sliced, Addr.add]
  have HS3 := hide hs3
  clear hs3
  go_enter Try.func8, Try.ntmps8
  go_wp2_with (first
    | (go_at_call 22; refine (HG.out _).mono ?_; rintro e W1 ⟨rfl, hb⟩; have HX1 := hide (HX0.out.up hb); obtain ⟨k0, k1, k2, k3⟩ := HX1.out.cells; clear hb HG)
    | (go_at_call 20; refine (HP.out _).mono ?_; rintro e W2 ⟨g, q, rfl, hL, hq, hgb, hb⟩; have HX2 := hide (HX1.out.up hb); have HLL := hide hL; have hsl := HS3.out g q hq; clear hb hL hq hgb HP)
    | (at_builtin; refine wpList_append_behind rfl _ _ rfl Try.underlying28 V.Try.info5 l g n HNL.out HLL.out rfl ad m2 m cap rfl HMM.out.1 (HM.out.below HX2.out.lo).lies HN.out HL.out.1 (by have := HL.out.2; have := HMM.out.2; omega) ?_; intro u c W3 hL3 h1 h2 hb3; have HX3 := hide (HX2.out.up hb3); have HG3 := hide (get_any u (l ++ m2) (n + m) c W3 (by rw [List.length_append, HNL.out, HMM.out.1]) hL3 (by have := HL.out.2; have := HMM.out.2; omega) h1 h2); clear hL3 h1 h2 hb3)
    | (go_at_call 24; unfold GetOut at HG3; rw [HF.out] at HG3; refine HG3.out.mono ?_; rintro e W4 ⟨rfl, hb⟩; have HX4 := hide ((HX3.out.up hb).up (pupI W4 x1 x2 x3 x4).1); have HN4 := hide (pupI W4 x1 x2 x3 x4).2; obtain ⟨k0, k1, k2, k3⟩ := HX4.out.cells; obtain ⟨d0, d1, d2, d3⟩ := pk_cells HN4.out; clear hb HG3)
    | (go_at_call 19; refine (lives_any _).mono ?_; rintro e W5 ⟨rfl, hb⟩; have HX5 := hide (HX4.out.up hb); clear hb))
  go_ret
  exact ⟨rfl, HX5.out.lo⟩

set_option maxHeartbeats 2000000 in
theorem back_out (x1 x2 x3 : Int) (x4 : ByteArray) (ad : Option Addr) (m cap : Nat) (w : World) (h : 2000 < x4.size ∨ (x4.size ≤ 2000 ∧ 2000 < m) ∨ (x4.size ≤ 2000 ∧ m ≤ 2000 ∧ goodP x1 x2 x3 x4 = false)) :
    Calls Try.prog 8 #[.agg #[.int .i64 x1, .int .i64 x2, .int .i64 x3, .string x4], .slice ad m cap] w fun e W' => e = .returned (.bool true) ∧ Below w.heap.size w W' := by
  have hx := pk_new w x1 x2 x3 x4
  obtain ⟨k0, k1, k2, k3⟩ := hx.cells
  have HX0 := hide hx
  clear hx
  rcases h with h1 | ⟨h1, h2⟩ | ⟨h1, h2, h3⟩
  · have n1 : (2000 : Int) < (x4.size : Int) := by omega
    clear h1
    go_enter Try.func8, Try.ntmps8
    go_wp2_with (go_at_call 19; refine (lives_any _).mono ?_; rintro e W5 ⟨rfl, hb⟩; have HX5 := hide (HX0.out.up hb); clear hb)
    go_ret
    exact ⟨rfl, HX5.out.lo⟩
  · have n1 : ¬ (2000 : Int) < (x4.size : Int) := by omega
    have n2 : (2000 : Int) < (m : Int) := by omega
    clear h1 h2
    go_enter Try.func8, Try.ntmps8
    go_wp2_with (go_at_call 19; refine (lives_any _).mono ?_; rintro e W5 ⟨rfl, hb⟩; have HX5 := hide (HX0.out.up hb); clear hb)
    go_ret
    exact ⟨rfl, HX5.out.lo⟩
  · have n1 : ¬ (2000 : Int) < (x4.size : Int) := by omega
    have n2 : ¬ (2000 : Int) < (m : Int) := by omega
    have HG : Hid (∀ W, Calls Try.prog 22 #[.agg #[.int .i64 x1, .int .i64 x2, .int .i64 x3, .string x4]] W fun e W' => e = .returned (.bool false) ∧ Below W.heap.size W W') := hide fun W => by rw [← h3]; exact good_any x1 x2 x3 x4 W
    clear h1 h2 h3
    go_enter Try.func8, Try.ntmps8
    go_wp2_with (first
      | (go_at_call 22; refine (HG.out _).mono ?_; rintro e W1 ⟨rfl, hb⟩; have HX1 := hide (HX0.out.up hb); clear hb HG)
      | (go_at_call 19; refine (lives_any _).mono ?_; rintro e W5 ⟨rfl, hb⟩; have HX5 := hide (HX1.out.up hb); clear hb))
    go_ret
    exact ⟨rfl, HX5.out.lo⟩

theorem row_none {w : World} {a : Option Addr} {len cap : Nat} {zs : List Int} (h : IsRow .u8 w a len cap zs) : a = none → len = 0 ∧ cap = 0 := by
  rcases h with ⟨rfl, rfl, rfl, rfl⟩ | ⟨x, rfl, _⟩
  · exact fun _ => ⟨rfl, rfl⟩
  · intro h; cases h

theorem back_any (x1 x2 x3 : Int) (x4 : ByteArray) (ad : Option Addr) (m cap : Nat) (zs : List Int) (w : World) (h : IsRow .u8 w ad m cap zs) :
    Calls Try.prog 8 #[.agg #[.int .i64 x1, .int .i64 x2, .int .i64 x3, .string x4], .slice ad m cap] w fun e W' => e = .returned (.bool true) ∧ Below w.heap.size w W' := by
  by_cases h1 : 2000 < x4.size
  · exact back_out x1 x2 x3 x4 ad m cap w (.inl h1)
  · by_cases h2 : 2000 < m
    · exact back_out x1 x2 x3 x4 ad m cap w (.inr (.inl ⟨by omega, h2⟩))
    · cases h3 : goodP x1 x2 x3 x4 with
      | false => exact back_out x1 x2 x3 x4 ad m cap w (.inr (.inr ⟨by omega, by omega, h3⟩))
      | true =>
        obtain ⟨m2, hm, hc, hx, hM⟩ := came_of_row h
        exact back_walk x1 x2 x3 x4 ad m2 m cap w h3 (by omega) hm (by omega) hM (fun e => ⟨List.length_eq_zero_iff.1 (by rw [hm]; exact (row_none h e).1), (row_none h e).2⟩)
end Go.Proofs.Ytgeboanebdmebaa.F
