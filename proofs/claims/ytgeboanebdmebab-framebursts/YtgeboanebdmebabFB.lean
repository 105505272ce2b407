/- frame: Put, the program's way. -/
import Derived.Test.YtgeboanebdmebabFA
namespace Go.Proofs.Ytgeboanebdmebab.F
open Go.Proofs.Ytgeboanebdmebab Go.RowKit Go.By
set_option linter.unusedVariables false
set_option linter.unusedSimpArgs false

def preL (a b c : Int) : Nat → List Nat
  | 0 => []
  | k + 1 => preL a b c k ++ Vary.putI (nth3 a b c k)
def bodyL (a b c : Int) (s : ByteArray) : List Nat := preL a b c 3 ++ Vary.putT (nums s)
def frameL (a b c : Int) (s : ByteArray) : List Nat := Vary.putI ((bodyL a b c s).length : Nat) ++ Crc.sealed (bodyL a b c s)
theorem putI_len (z : Int) : (Vary.putI z).length ≤ 10 := by
  unfold Vary.putI
  split
  · exact (Vary.put_length _).2
  · simp
theorem preL_len (a b c : Int) : ∀ k, (preL a b c k).length ≤ 10 * k := by
  intro k
  induction k with
  | zero => exact Nat.le_refl _
  | succ k ih => rw [preL, List.length_append]; have := putI_len (nth3 a b c k); omega
theorem putT_len (s : ByteArray) : (Vary.putT (nums s)).length ≤ 10 + s.size := by
  rw [Vary.putT, List.length_append, nums_length]; have := (Vary.put_length s.size).2; omega
theorem bodyL_len (a b c : Int) (s : ByteArray) : (bodyL a b c s).length ≤ 40 + s.size := by
  rw [bodyL, List.length_append]; have := preL_len a b c 3; have := putT_len s; omega

theorem came_none (B : Nat) (W : World) : Came B W none [] := ⟨by simp, .inl rfl⟩

/-- A number, behind what is owned. -/
theorem put_own {B : Nat} {W : World} {v : Value} {l : List Nat} (h : Owns W B v l) (hB : B ≤ W.heap.size) (hl : l.length ≤ 20000) (x : Int) :
    ∃ u cap, v = .slice u l.length cap ∧ Calls Try.prog 11 #[.slice u l.length cap, .int .i64 x] W fun e W' => ∃ v', e = .returned v' ∧ Owns W' B v' (l ++ Vary.putI x) ∧ Below W.heap.size W W' := by
  obtain ⟨u, cap, rfl, _, _, hL, hn, _⟩ := h.form
  refine ⟨u, cap, rfl, (V.put_any x u l cap W hL.came hn hl).mono ?_⟩
  rintro e W' ⟨v', rfl, h1, h2⟩
  exact ⟨v', rfl, h1.mono hB, h2⟩
theorem text_own {B : Nat} {W : World} {v : Value} {l : List Nat} (h : Owns W B v l) (hB : B ≤ W.heap.size) (hl : l.length ≤ 20000) (s : ByteArray) (hs : s.size ≤ 10000) :
    ∃ u cap, v = .slice u l.length cap ∧ Calls Try.prog 12 #[.slice u l.length cap, .string s] W fun e W' => ∃ v', e = .returned v' ∧ Owns W' B v' (l ++ Vary.putT (nums s)) ∧ Below W.heap.size W W' := by
  obtain ⟨u, cap, rfl, _, _, hL, hn, _⟩ := h.form
  refine ⟨u, cap, rfl, (V.putT_any s u l cap W hL.came hn hl hs).mono ?_⟩
  rintro e W' ⟨v', rfl, h1, h2⟩
  exact ⟨v', rfl, h1.mono hB, h2⟩
theorem seal_own {B : Nat} {W : World} {v : Value} {l : List Nat} (h : Owns W B v l) (hB : B ≤ W.heap.size) (hl : l.length ≤ 20000) :
    ∃ u cap, v = .slice u l.length cap ∧ Calls Try.prog 13 #[.slice u l.length cap] W fun e W' => ∃ v', e = .returned v' ∧ Owns W' B v' (Crc.sealed l) ∧ Below W.heap.size W W' := by
  obtain ⟨u, cap, rfl, _, _, hL, hn, _⟩ := h.form
  refine ⟨u, cap, rfl, (C.seal_any u l cap W hL.came hn (by omega)).mono ?_⟩
  rintro e W' ⟨v', rfl, h1, h2⟩
  exact ⟨v', rfl, h1.mono hB, h2⟩

theorem put_nil (x : Int) (W : World) : Calls Try.prog 11 #[.slice none 0 0, .int .i64 x] W fun e W' => ∃ v', e = .returned v' ∧ Owns W' W.heap.size v' (Vary.putI x) ∧ Below W.heap.size W W' :=
  V.put_any x none [] 0 W (came_none _ _) (fun _ => ⟨rfl, rfl⟩) (by simp)
theorem seal_at {B : Nat} {W : World} {p : Option Addr} {q : Nat} {l : List Nat} (h : Owns W B (.slice p l.length q) l) (hB : B ≤ W.heap.size) (hl : l.length ≤ 20000) :
    Calls Try.prog 13 #[.slice p l.length q] W fun e W' => ∃ v', e = .returned v' ∧ Owns W' B v' (Crc.sealed l) ∧ Below W.heap.size W W' := by
  obtain ⟨u, cap, e, hc⟩ := seal_own h hB hl
  cases e
  exact hc

set_option maxRecDepth 20000 in
set_option maxHeartbeats 8000000 in
theorem put_good (a b c : Int) (s : ByteArray) (w : World) (hg : goodP a b c s = true) (hs : s.size ≤ 2000) :
    Calls Try.prog 6 #[.agg #[.int .i64 a, .int .i64 b, .int .i64 c, .string s]] w fun e W' => ∃ v, e = .returned (.tuple #[v, .int .i64 0]) ∧ Owns W' w.heap.size v (frameL a b c s) ∧ Below w.heap.size w W' := by
  have hx := pk_new w a b c s
  obtain ⟨c0, c1, c2, c3⟩ := hx.cells
  have HX := hide hx
  have HG : Hid (∀ W, Calls Try.prog 9 #[.agg #[.int .i64 a, .int .i64 b, .int .i64 c, .string s]] W fun e W' => e = .returned (.bool true) ∧ Below W.heap.size W W') := hide fun W => by rw [← hg]; exact good_any a b c s W
  have HS := hide hs
  clear hx hg hs
  go_enter Try.func6, Try.ntmps6
  go_wp2_with (first
    | (go_at_call 9; refine (HG.out _).mono ?_; rintro e W1 ⟨rfl, hb⟩; have HX1 := hide (HX.out.up hb); obtain ⟨d0, d1, d2, d3⟩ := HX1.out.cells; clear hb)
    | (go_at_call 10; refine (numbers_any a b c s _).mono ?_; rintro e W2 ⟨rfl, hb⟩; have HX2 := hide (HX1.out.up hb); clear hb))
  go_loopw [4, 12] (fun s4 s12 wr => ∃ k : Nat, s12 = .int .i64 (k : Int) ∧ k ≤ 3 ∧ Hid (Owns wr w.heap.size s4 (preL a b c k) ∧ PK w a b c s wr)) (fun _ s12 _ => 3 - (intOf s12).toNat)
  case atStart => exact ⟨0, rfl, by omega, hide ⟨Owns.nil _ _, HX2.out⟩⟩
  case round =>
    obtain ⟨k, rfl, hk, HI⟩ := hrel
    have hks : k = 0 ∨ k = 1 ∨ k = 2 ∨ k = 3 := by omega
    clear hk c0 c1 c2 c3 d0 d1 d2 d3
    have HL : Hid ((preL a b c k).length ≤ 10 * k) := hide (preL_len a b c k)
    rcases hks with hk0 | hk1 | hk2 | hk3
    · subst hk0
      have hix := run_ix0 (.int .i64 a) (.int .i64 b) (.int .i64 c)
      obtain ⟨u, cap, rfl, hcall⟩ := put_own HI.out.1 HI.out.2.lo.size (by have := HL.out; omega) a
      go_wp2_with (go_at_call 11; refine hcall.mono ?_; rintro e W3 ⟨v', rfl, ho, hb⟩; have HI3 : Hid (Owns W3 w.heap.size v' (preL a b c 1) ∧ PK w a b c s W3) := hide ⟨ho, HI.out.2.up hb⟩; clear ho hb hcall)
      go_roundw
      case rel => exact ⟨1, rfl, by decide, HI3⟩
      case measure => simp [intOf]
    · subst hk1
      have hix := run_ix1 (.int .i64 a) (.int .i64 b) (.int .i64 c)
      obtain ⟨u, cap, rfl, hcall⟩ := put_own HI.out.1 HI.out.2.lo.size (by have := HL.out; omega) b
      go_wp2_with (go_at_call 11; refine hcall.mono ?_; rintro e W3 ⟨v', rfl, ho, hb⟩; have HI3 : Hid (Owns W3 w.heap.size v' (preL a b c 2) ∧ PK w a b c s W3) := hide ⟨ho, HI.out.2.up hb⟩; clear ho hb hcall)
      go_roundw
      case rel => exact ⟨2, rfl, by decide, HI3⟩
      case measure => simp [intOf]
    · subst hk2
      have hix := run_ix2 (.int .i64 a) (.int .i64 b) (.int .i64 c)
      obtain ⟨u, cap, rfl, hcall⟩ := put_own HI.out.1 HI.out.2.lo.size (by have := HL.out; omega) c
      go_wp2_with (go_at_call 11; refine hcall.mono ?_; rintro e W3 ⟨v', rfl, ho, hb⟩; have HI3 : Hid (Owns W3 w.heap.size v' (preL a b c 3) ∧ PK w a b c s W3) := hide ⟨ho, HI.out.2.up hb⟩; clear ho hb hcall)
      go_roundw
      case rel => exact ⟨3, rfl, by decide, HI3⟩
      case measure => simp [intOf]
    · subst hk3
      obtain ⟨d0, d1, d2, d3⟩ := HI.out.2.cells
      obtain ⟨u, cap, rfl, hcall⟩ := text_own HI.out.1 HI.out.2.lo.size (by have := HL.out; omega) s (by have := HS.out; omega)
      have HBL : Hid ((bodyL a b c s).length ≤ 2040) := hide (by have := bodyL_len a b c s; have := HS.out; omega)
      have HFR : Hid (frameL a b c s = Vary.putI ((bodyL a b c s).length : Nat) ++ Crc.sealed (bodyL a b c s)) := hide rfl
      replace hcall : Calls Try.prog 12 #[.slice u (preL a b c 3).length cap, .string s] wr fun e W' => ∃ v', e = .returned v' ∧ Owns W' w.heap.size v' (bodyL a b c s) ∧ Below wr.heap.size wr W' := hcall
      generalize bodyL a b c s = l at *
      go_wp2_with (first
        | (go_at_call 12; refine hcall.mono ?_; rintro e W3 ⟨v', rfl, ho, hb⟩; obtain ⟨p, q, rfl, _⟩ := seal_own ho (Nat.le_trans HI.out.2.lo.size hb.size) (by have := HBL.out; omega); have HO3 := hide ho; have HX3 := hide (HI.out.2.up hb); clear ho hb hcall)
        | (go_at_call 11; refine (put_nil _ _).mono ?_; rintro e W4 ⟨v4, rfl, ho, hb⟩; have HO4 := hide (And.intro (ho.mono HX3.out.lo.size) (HO3.out.below hb)); have HX4 := hide (HX3.out.up hb); clear ho hb)
        | (go_at_call 13; refine (seal_at HO4.out.2 HX4.out.lo.size (by have := HBL.out; omega)).mono ?_; rintro e W5 ⟨v5, rfl, ho, hb⟩; obtain ⟨u5, c5, rfl, _, _, hL5, hn5, _⟩ := ho.form; have HO5 := hide (And.intro (HO4.out.1.below hb) (And.intro hL5 hn5)); have HX5 := hide (HX4.out.up hb); clear ho hb hL5 hn5)
        | (at_builtin; refine wpList_append_bytes rfl _ _ rfl Try.underlying27 V.Try.info5 w.heap.size _ _ rfl HO5.out.1 u5 (Crc.sealed l) (Crc.sealed l).length c5 rfl rfl HO5.out.2.1 HO5.out.2.2 (by have := Crc.sealed_length l; have := HBL.out; have := putI_len (l.length : Nat); omega) HX5.out.lo.size ?_; intro v6 W6 ho hgr; have HO6 := hide (And.intro ho (Below.app HX5.out.lo hgr HO5.out.1 (Nat.le_refl _) HX5.out.lo.size)); clear ho hgr))
      go_ret2
      exact ⟨_, rfl, by rw [HFR.out]; exact HO6.out.1, HO6.out.2⟩

theorem put_bad (a b c : Int) (s : ByteArray) (w : World) (hg : goodP a b c s = false) :
    Calls Try.prog 6 #[.agg #[.int .i64 a, .int .i64 b, .int .i64 c, .string s]] w fun e W' => e = .returned (.tuple #[.slice none 0 0, .int .i64 2]) ∧ Below w.heap.size w W' := by
  have hx := pk_new w a b c s
  obtain ⟨c0, c1, c2, c3⟩ := hx.cells
  have HX := hide hx
  have HG : Hid (∀ W, Calls Try.prog 9 #[.agg #[.int .i64 a, .int .i64 b, .int .i64 c, .string s]] W fun e W' => e = .returned (.bool false) ∧ Below W.heap.size W W') := hide fun W => by rw [← hg]; exact good_any a b c s W
  clear hx hg
  go_enter Try.func6, Try.ntmps6
  go_wp2_with (go_at_call 9; refine (HG.out _).mono ?_; rintro e W1 ⟨rfl, hb⟩; have HX1 := hide (HX.out.up hb); clear hb)
  go_ret2
  exact ⟨rfl, HX1.out.lo⟩

end Go.Proofs.Ytgeboanebdmebab.F
