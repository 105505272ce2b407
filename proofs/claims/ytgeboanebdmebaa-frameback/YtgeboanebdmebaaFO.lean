/- frame: the document's Get. -/
import Derived.Test.YtgeboanebdmebaaFN
namespace Go.Proofs.Ytgeboanebdmebaa.F
open Go.Proofs.Ytgeboanebdmebaa Go.RowKit Go.By
set_option linter.unusedVariables false
set_option linter.unusedSimpArgs false
set_option maxRecDepth 20000
attribute [local go_sem ↓] Go.wp_at_zero Go.wp_at_succ

theorem results_ctt {P : Program} {fn : Func} {p u v : Tmp} {ty : TypeId} (h : fn.results = #[.cell p ty, .tmp u, .tmp v]) (tmps : Array Value) (w : World) (g : Nat) (t : TypeId) (cs : Array Value) (fr : Nat × Nat) (d : TypeDesc)
    (hp : tmps.getD p undef = .pointer (some ⟨g, 0, none⟩)) (hg : w.heap[g]? = some (.cells cs t fr))
    (hu : P.underlying ty = some d) (hd : (match d with | .struct _ | .array _ _ => true | _ => false) = true) (hi : (P.info? ty).map (·.size) = some cs.size) :
    (results fn tmps).run P w = .ok (.tuple #[.agg cs, tmps.getD u undef, tmps.getD v undef]) w := by
  have hp' : tmps[p]?.getD undef = .pointer (some ⟨g, 0, none⟩) := by simpa using hp
  simp [results, h, hp', asAddr, run_loadVar_row w g t ty cs fr d hg hu hd hi, Sem.run_bind, Result.andThen]
theorem pupI (W : World) (a b c : Int) (s : ByteArray) : Below W.heap.size W (W.alloc (.cells #[.int .i64 a, .int .i64 b, .int .i64 c, .string s] 42)) ∧ (W.alloc (.cells #[.int .i64 a, .int .i64 b, .int .i64 c, .string s] 42)).heap[W.heap.size]? = some (.cells #[.int .i64 a, .int .i64 b, .int .i64 c, .string s] 42 (0, 0)) :=
  ⟨(Below.refl _ _).alloc (Nat.le_refl _) _, World.alloc_heap_new W _⟩

set_option maxHeartbeats 1000000 in
theorem rget1 (a : Option Addr) (n cap m k : Nat) (w : World) (R : (Int × Int × Int × ByteArray) × Nat × Int) (hz : k = 0) (hn : n ≤ 5000) (hm : m ≤ 4611686018427387904) (hk : k ≤ 9)
    (h77 : ∀ W, Below w.heap.size w W → Calls Try.prog 77 #[.slice a n cap] W fun x W' => x = .returned (.tuple #[.int .i64 (m : Int), .int .i64 (k : Int)]) ∧ W' = W)
    (hR : R = ((0, 0, 0, ⟨#[]⟩), 0, 10)) :
    Calls Try.prog 25 #[.slice a n cap] w fun e W' => GetOut w R e W' := by
  have HV := hide hR
  have H77 := hide h77
  have HB0 := hide (z42_new w)
  have qk : ((k : Int) == 0) = true := by simp; omega
  clear hR h77 hz hk
  go_enter Try.func25, Try.ntmps25
  go_wp2_with (first
    | (go_at_call 77; refine (H77.out _ HB0.out.1).mono ?_; rintro e W1 ⟨rfl, hw⟩; subst hw; obtain ⟨c0, c1, c2, c3⟩ := pk_cells HB0.out.2; obtain ⟨f0, f1, f2, f3⟩ := pk_free HB0.out.2; clear H77)
    | fail)
  exact bodyPost_ret (results_ctt rfl _ _ w.heap.size 42 _ (0, 0) _ rfl HB0.out.2 Try.underlying42 rfl (by kernel_rfl)) rfl ⟨by rw [HV.out]; rfl, HB0.out.1⟩

set_option maxHeartbeats 1000000 in
theorem rget2 (a : Option Addr) (n cap m k : Nat) (w : World) (R : (Int × Int × Int × ByteArray) × Nat × Int) (hz : k ≠ 0) (hbig : 65576 < m) (hn : n ≤ 5000) (hm : m ≤ 4611686018427387904) (hk : k ≤ 9)
    (h77 : ∀ W, Below w.heap.size w W → Calls Try.prog 77 #[.slice a n cap] W fun x W' => x = .returned (.tuple #[.int .i64 (m : Int), .int .i64 (k : Int)]) ∧ W' = W)
    (hR : R = ((0, 0, 0, ⟨#[]⟩), 0, 11)) :
    Calls Try.prog 25 #[.slice a n cap] w fun e W' => GetOut w R e W' := by
  have HV := hide hR
  have H77 := hide h77
  have HB0 := hide (z42_new w)
  have qk : ((k : Int) == 0) = false := by simp; omega
  have hb' : (65576 : Int) < (m : Int) := by omega
  clear hR h77 hz hbig hk
  go_enter Try.func25, Try.ntmps25
  go_wp2_with (first
    | (go_at_call 77; refine (H77.out _ HB0.out.1).mono ?_; rintro e W1 ⟨rfl, hw⟩; subst hw; obtain ⟨c0, c1, c2, c3⟩ := pk_cells HB0.out.2; obtain ⟨f0, f1, f2, f3⟩ := pk_free HB0.out.2; clear H77)
    | fail)
  exact bodyPost_ret (results_ctt rfl _ _ w.heap.size 42 _ (0, 0) _ rfl HB0.out.2 Try.underlying42 rfl (by kernel_rfl)) rfl ⟨by rw [HV.out]; rfl, HB0.out.1⟩

set_option maxHeartbeats 1000000 in
theorem rget3 (a : Option Addr) (n cap m k : Nat) (w : World) (R : (Int × Int × Int × ByteArray) × Nat × Int) (hz : k ≠ 0) (hbig : ¬ 65576 < m) (hlt : n < k + m + 4) (hn : n ≤ 5000) (hm : m ≤ 4611686018427387904) (hk : k ≤ 9)
    (h77 : ∀ W, Below w.heap.size w W → Calls Try.prog 77 #[.slice a n cap] W fun x W' => x = .returned (.tuple #[.int .i64 (m : Int), .int .i64 (k : Int)]) ∧ W' = W)
    (hR : R = ((0, 0, 0, ⟨#[]⟩), 0, 10)) :
    Calls Try.prog 25 #[.slice a n cap] w fun e W' => GetOut w R e W' := by
  have HV := hide hR
  have H77 := hide h77
  have HB0 := hide (z42_new w)
  have qk : ((k : Int) == 0) = false := by simp; omega
  have hb' : ¬ (65576 : Int) < (m : Int) := by omega
  have hlt' : (n : Int) < (k : Int) + m + 4 := by omega
  clear hR h77 hz hbig hlt
  go_enter Try.func25, Try.ntmps25
  go_wp2_with (first
    | (go_at_call 77; refine (H77.out _ HB0.out.1).mono ?_; rintro e W1 ⟨rfl, hw⟩; subst hw; obtain ⟨c0, c1, c2, c3⟩ := pk_cells HB0.out.2; obtain ⟨f0, f1, f2, f3⟩ := pk_free HB0.out.2; clear H77)
    | fail)
  exact bodyPost_ret (results_ctt rfl _ _ w.heap.size 42 _ (0, 0) _ rfl HB0.out.2 Try.underlying42 rfl (by kernel_rfl)) rfl ⟨by rw [HV.out]; rfl, HB0.out.1⟩

set_option maxHeartbeats 1000000 in
theorem rget4 (a : Option Addr) (n cap m k : Nat) (w : World) (R : (Int × Int × Int × ByteArray) × Nat × Int) (hz : k ≠ 0) (hbig : ¬ 65576 < m) (hlt : ¬ n < k + m + 4) (hcap : n ≤ cap) (h78 : ∀ W, Below w.heap.size w W → Calls Try.prog 78 #[.slice (V.from_ a cap k) (m + 4) (cap - k)] W fun x W' => x = .returned (.tuple #[.slice none 0 0, .bool false]) ∧ Below W.heap.size W W') (hn : n ≤ 5000) (hm : m ≤ 4611686018427387904) (hk : k ≤ 9)
    (h77 : ∀ W, Below w.heap.size w W → Calls Try.prog 77 #[.slice a n cap] W fun x W' => x = .returned (.tuple #[.int .i64 (m : Int), .int .i64 (k : Int)]) ∧ W' = W)
    (hR : R = ((0, 0, 0, ⟨#[]⟩), k + m + 4, 12)) :
    Calls Try.prog 25 #[.slice a n cap] w fun e W' => GetOut w R e W' := by
  have HV := hide hR
  have H77 := hide h77
  have HB0 := hide (z42_new w)
  have qk : ((k : Int) == 0) = false := by simp; omega
  have hb' : ¬ (65576 : Int) < (m : Int) := by omega
  have hsl := V.slice_lohi a n cap k ((k : Int) + m + 4) (m + 4) (by omega) (by omega)
  have hlt' : ¬ (n : Int) < (k : Int) + m + 4 := by omega
  have H78 := hide h78
  clear hR h77 hz hbig hlt hcap h78
  go_enter Try.func25, Try.ntmps25
  go_wp2_with (first
    | (go_at_call 77; refine (H77.out _ HB0.out.1).mono ?_; rintro e W1 ⟨rfl, hw⟩; subst hw; obtain ⟨c0, c1, c2, c3⟩ := pk_cells HB0.out.2; obtain ⟨f0, f1, f2, f3⟩ := pk_free HB0.out.2; clear H77)
    | (go_at_call 78; refine (H78.out _ HB0.out.1).mono ?_; rintro e W2 ⟨rfl, hb⟩; have HB2 := hide (kept HB0.out hb); obtain ⟨c0, c1, c2, c3⟩ := pk_cells HB2.out.2; obtain ⟨f0, f1, f2, f3⟩ := pk_free HB2.out.2; clear hb H78)
    | fail)
  exact bodyPost_ret (results_ctt rfl _ _ w.heap.size 42 _ (0, 0) _ rfl (pk_set HB2.out.2) Try.underlying42 rfl (by kernel_rfl)) rfl ⟨by rw [HV.out]; rfl, (((HB2.out.1.setCell (Nat.le_refl _) _).setCell (Nat.le_refl _) _).setCell (Nat.le_refl _) _).setCell (Nat.le_refl _) _⟩

set_option maxHeartbeats 1000000 in
theorem rget5 (a : Option Addr) (n cap m k : Nat) (w : World) (R : (Int × Int × Int × ByteArray) × Nat × Int) (hz : k ≠ 0) (hbig : ¬ 65576 < m) (hlt : ¬ n < k + m + 4) (hcap : n ≤ cap) (h78 : ∀ W, Below w.heap.size w W → Calls Try.prog 78 #[.slice (V.from_ a cap k) (m + 4) (cap - k)] W fun x W' => x = .returned (.tuple #[.slice (V.from_ a cap k) m (cap - k), .bool true]) ∧ Below W.heap.size W W') (x1 x2 x3 : Int) (x4 : ByteArray) (h79 : ∀ W, Below w.heap.size w W → Calls Try.prog 79 #[.slice (V.from_ a cap k) m (cap - k)] W fun x W' => x = .returned (.tuple #[.agg #[.int .i64 x1, .int .i64 x2, .int .i64 x3, .string x4], .bool false]) ∧ Below W.heap.size W W') (hn : n ≤ 5000) (hm : m ≤ 4611686018427387904) (hk : k ≤ 9)
    (h77 : ∀ W, Below w.heap.size w W → Calls Try.prog 77 #[.slice a n cap] W fun x W' => x = .returned (.tuple #[.int .i64 (m : Int), .int .i64 (k : Int)]) ∧ W' = W)
    (hR : R = ((0, 0, 0, ⟨#[]⟩), k + m + 4, 10)) :
    Calls Try.prog 25 #[.slice a n cap] w fun e W' => GetOut w R e W' := by
  have HV := hide hR
  have H77 := hide h77
  have HB0 := hide (z42_new w)
  have qk : ((k : Int) == 0) = false := by simp; omega
  have hb' : ¬ (65576 : Int) < (m : Int) := by omega
  have hsl := V.slice_lohi a n cap k ((k : Int) + m + 4) (m + 4) (by omega) (by omega)
  have hlt' : ¬ (n : Int) < (k : Int) + m + 4 := by omega
  have H78 := hide h78
  have H79 := hide h79
  clear hR h77 hz hbig hlt hcap h78 h79
  go_enter Try.func25, Try.ntmps25
  go_wp2_with (first
    | (go_at_call 77; refine (H77.out _ HB0.out.1).mono ?_; rintro e W1 ⟨rfl, hw⟩; subst hw; obtain ⟨c0, c1, c2, c3⟩ := pk_cells HB0.out.2; obtain ⟨f0, f1, f2, f3⟩ := pk_free HB0.out.2; clear H77)
    | (go_at_call 78; refine (H78.out _ HB0.out.1).mono ?_; rintro e W2 ⟨rfl, hb⟩; have HB2 := hide (kept HB0.out hb); obtain ⟨c0, c1, c2, c3⟩ := pk_cells HB2.out.2; obtain ⟨f0, f1, f2, f3⟩ := pk_free HB2.out.2; clear hb H78)
    | (go_at_call 79; refine (H79.out _ HB2.out.1).mono ?_; rintro e W3 ⟨rfl, hb⟩; have HB3 := hide (kept HB2.out hb); have HX3 := hide (pupI W3 x1 x2 x3 x4); have HB4 := hide (kept HB3.out HX3.out.1); obtain ⟨c0, c1, c2, c3⟩ := pk_cells HB4.out.2; obtain ⟨f0, f1, f2, f3⟩ := pk_free HB4.out.2; obtain ⟨d0, d1, d2, d3⟩ := pk_cells HX3.out.2; clear hb H79)
    | fail)
  exact bodyPost_ret (results_ctt rfl _ _ w.heap.size 42 _ (0, 0) _ rfl (pk_set HB4.out.2) Try.underlying42 rfl (by kernel_rfl)) rfl ⟨by rw [HV.out]; rfl, (((HB4.out.1.setCell (Nat.le_refl _) _).setCell (Nat.le_refl _) _).setCell (Nat.le_refl _) _).setCell (Nat.le_refl _) _⟩

set_option maxHeartbeats 1000000 in
theorem rget6 (a : Option Addr) (n cap m k : Nat) (w : World) (R : (Int × Int × Int × ByteArray) × Nat × Int) (hz : k ≠ 0) (hbig : ¬ 65576 < m) (hlt : ¬ n < k + m + 4) (hcap : n ≤ cap) (h78 : ∀ W, Below w.heap.size w W → Calls Try.prog 78 #[.slice (V.from_ a cap k) (m + 4) (cap - k)] W fun x W' => x = .returned (.tuple #[.slice (V.from_ a cap k) m (cap - k), .bool true]) ∧ Below W.heap.size W W') (x1 x2 x3 : Int) (x4 : ByteArray) (h79 : ∀ W, Below w.heap.size w W → Calls Try.prog 79 #[.slice (V.from_ a cap k) m (cap - k)] W fun x W' => x = .returned (.tuple #[.agg #[.int .i64 x1, .int .i64 x2, .int .i64 x3, .string x4], .bool true]) ∧ Below W.heap.size W W') (hn : n ≤ 5000) (hm : m ≤ 4611686018427387904) (hk : k ≤ 9)
    (h77 : ∀ W, Below w.heap.size w W → Calls Try.prog 77 #[.slice a n cap] W fun x W' => x = .returned (.tuple #[.int .i64 (m : Int), .int .i64 (k : Int)]) ∧ W' = W)
    (hR : R = ((x1, x2, x3, x4), k + m + 4, 0)) :
    Calls Try.prog 25 #[.slice a n cap] w fun e W' => GetOut w R e W' := by
  have HV := hide hR
  have H77 := hide h77
  have HB0 := hide (z42_new w)
  have qk : ((k : Int) == 0) = false := by simp; omega
  have hb' : ¬ (65576 : Int) < (m : Int) := by omega
  have hsl := V.slice_lohi a n cap k ((k : Int) + m + 4) (m + 4) (by omega) (by omega)
  have hlt' : ¬ (n : Int) < (k : Int) + m + 4 := by omega
  have H78 := hide h78
  have H79 := hide h79
  clear hR h77 hz hbig hlt hcap h78 h79
  go_enter Try.func25, Try.ntmps25
  go_wp2_with (first
    | (go_at_call 77; refine (H77.out _ HB0.out.1).mono ?_; rintro e W1 ⟨rfl, hw⟩; subst hw; obtain ⟨c0, c1, c2, c3⟩ := pk_cells HB0.out.2; obtain ⟨f0, f1, f2, f3⟩ := pk_free HB0.out.2; clear H77)
    | (go_at_call 78; refine (H78.out _ HB0.out.1).mono ?_; rintro e W2 ⟨rfl, hb⟩; have HB2 := hide (kept HB0.out hb); obtain ⟨c0, c1, c2, c3⟩ := pk_cells HB2.out.2; obtain ⟨f0, f1, f2, f3⟩ := pk_free HB2.out.2; clear hb H78)
    | (go_at_call 79; refine (H79.out _ HB2.out.1).mono ?_; rintro e W3 ⟨rfl, hb⟩; have HB3 := hide (kept HB2.out hb); have HX3 := hide (pupI W3 x1 x2 x3 x4); have HB4 := hide (kept HB3.out HX3.out.1); obtain ⟨c0, c1, c2, c3⟩ := pk_cells HB4.out.2; obtain ⟨f0, f1, f2, f3⟩ := pk_free HB4.out.2; obtain ⟨d0, d1, d2, d3⟩ := pk_cells HX3.out.2; clear hb H79)
    | fail)
  exact bodyPost_ret (results_ctt rfl _ _ w.heap.size 42 _ (0, 0) _ rfl (pk_set HB4.out.2) Try.underlying42 rfl (by kernel_rfl)) rfl ⟨by rw [HV.out]; rfl, (((HB4.out.1.setCell (Nat.le_refl _) _).setCell (Nat.le_refl _) _).setCell (Nat.le_refl _) _).setCell (Nat.le_refl _) _⟩


theorem rget_any (a : Option Addr) (l : List Nat) (n cap : Nat) (w : World) (hn : l.length = n) (hL : Came w.heap.size w a l) (hm : n ≤ 5000) (hcap : n ≤ cap) (hmx : cap ≤ maxLen) :
    Calls Try.prog 25 #[.slice a n cap] w fun e W' => GetOut w (getP l) e W' := by
  have h77 : ∀ W, Below w.heap.size w W → Calls Try.prog 77 #[.slice a n cap] W fun x W' => x = .returned (.tuple #[.int .i64 ((Vary.refN l).1 : Nat), .int .i64 ((Vary.refN l).2 : Nat)]) ∧ W' = W :=
    fun W hb => V.refNum_any a l n cap W hn (hL.below hb).lies (by omega)
  cases hv : Vary.num l with
  | none =>
    rw [refN_none hv] at h77
    exact rget1 a n cap 0 0 w (getP l) rfl hm (by omega) (by omega) h77 (by unfold getP; rw [hv])
  | some p =>
    obtain ⟨m, k⟩ := p
    rw [refN_some hv] at h77
    obtain ⟨_, hmax, hk0, hk9, hkl⟩ := Vary.num_back hL.1 hv
    have hmax' : m ≤ 4611686018427387904 := hmax
    by_cases hbig : 65576 < m
    · exact rget2 a n cap m k w (getP l) (by omega) hbig hm hmax' hk9 h77 (by unfold getP; rw [hv]; simp only []; rw [if_pos hbig])
    · by_cases hlt : n < k + m + 4
      · exact rget3 a n cap m k w (getP l) (by omega) hbig hlt hm hmax' hk9 h77 (by unfold getP; rw [hv]; simp only []; rw [if_neg hbig, if_pos (by omega)])
      · have hls : ((l.drop k).take (m + 4)).length = m + 4 := by rw [List.length_take, List.length_drop]; omega
        have hg0 : getP l = if ¬ Crc.sealed (((l.drop k).take (m + 4)).take m) = (l.drop k).take (m + 4) then ((0, 0, 0, ⟨#[]⟩), k + m + 4, 12)
            else if (parseP (((l.drop k).take (m + 4)).take m)).2 then ((parseP (((l.drop k).take (m + 4)).take m)).1, k + m + 4, 0) else ((0, 0, 0, ⟨#[]⟩), k + m + 4, 10) := by
          unfold getP; rw [hv]; simp only []; rw [if_neg hbig, if_neg (by omega)]
        have hcm : ∀ W, Below w.heap.size w W → Came W.heap.size W (V.from_ a cap k) ((l.drop k).take (m + 4)) := fun W hb => sealed_came hL hb (by omega) k m
        by_cases hgood : Crc.Good ((l.drop k).take (m + 4)) m
        · have hs := (Crc.good_iff _ m hls).1 hgood
          rw [if_neg (by simpa using hs)] at hg0
          have h78 : ∀ W, Below w.heap.size w W → Calls Try.prog 78 #[.slice (V.from_ a cap k) (m + 4) (cap - k)] W fun x W' => x = .returned (.tuple #[.slice (V.from_ a cap k) m (cap - k), .bool true]) ∧ Below W.heap.size W W' :=
            fun W hb => C.refOpen_long (V.from_ a cap k) ((l.drop k).take (m + 4)) m (cap - k) W (hcm W hb) hls (by omega) (by omega) (by omega) hgood
          have h79 : ∀ W, Below w.heap.size w W → Calls Try.prog 79 #[.slice (V.from_ a cap k) m (cap - k)] W fun x W' => x = .returned (.tuple #[.agg #[.int .i64 (parseP (((l.drop k).take (m + 4)).take m)).1.1, .int .i64 (parseP (((l.drop k).take (m + 4)).take m)).1.2.1, .int .i64 (parseP (((l.drop k).take (m + 4)).take m)).1.2.2.1, .string (parseP (((l.drop k).take (m + 4)).take m)).1.2.2.2], .bool (parseP (((l.drop k).take (m + 4)).take m)).2]) ∧ Below W.heap.size W W' :=
            fun W hb => parse_any (V.from_ a cap k) (((l.drop k).take (m + 4)).take m) m (cap - k) W (by rw [List.length_take, hls]; omega) ((hcm W hb).take m) (by omega) (by omega)
          cases hp : (parseP (((l.drop k).take (m + 4)).take m)).2 with
          | true =>
            rw [hp] at h79
            refine rget6 a n cap m k w (getP l) (by omega) hbig hlt hcap h78 _ _ _ _ h79 hm hmax' hk9 h77 ?_
            rw [hg0, hp]; rfl
          | false =>
            rw [hp] at h79
            refine rget5 a n cap m k w (getP l) (by omega) hbig hlt hcap h78 _ _ _ _ h79 hm hmax' hk9 h77 ?_
            rw [hg0, hp]; rfl
        · have hs : ¬ Crc.sealed (((l.drop k).take (m + 4)).take m) = (l.drop k).take (m + 4) := fun e => hgood ((Crc.good_iff _ m hls).2 e)
          rw [if_pos hs] at hg0
          have h78 : ∀ W, Below w.heap.size w W → Calls Try.prog 78 #[.slice (V.from_ a cap k) (m + 4) (cap - k)] W fun x W' => x = .returned (.tuple #[.slice none 0 0, .bool false]) ∧ Below W.heap.size W W' :=
            fun W hb => C.refOpen_bad (V.from_ a cap k) ((l.drop k).take (m + 4)) m (cap - k) W (hcm W hb) hls (by omega) (by omega) (by omega) hgood
          exact rget4 a n cap m k w (getP l) (by omega) hbig hlt hcap h78 hm hmax' hk9 h77 hg0
end Go.Proofs.Ytgeboanebdmebaa.F
