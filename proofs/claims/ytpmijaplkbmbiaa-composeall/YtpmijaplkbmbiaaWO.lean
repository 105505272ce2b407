/- compose's Two, walked. -/
import Derived.Test.YtpmijaplkbmbiaaWN
namespace Go.Proofs.Ytpmijaplkbmbiaa.E
open Go.Proofs.Ytpmijaplkbmbiaa Go.RowKit Go.By Go.Shelf
set_option linter.unusedVariables false
set_option linter.unusedSimpArgs false
attribute [local go_sem] Oper.semAt_some

def Gives2C (n₀ : Nat) (w : World) (rs : List Rn) (x : Int) (e : Ending) (W' : World) : Prop := ∃ a cap, e = .returned (.tuple #[.slice a rs.length cap, .int .i64 x]) ∧ CameR W'.heap.size W' a rs ∧ rs.length ≤ cap ∧ Below n₀ w W'

/-- Where Two stands in a round. -/
def TA (a b : Option Addr) (n cap m cap' : Nat) (mo : Int) (H : Nat) (x y : Rn) (q1 q2 : Nat) : Act := { tmps := #[.slice a n cap, .slice b m cap', undef, undef, .slice none 0 0, .int .i64 0, .pointer (some ⟨H, 0, none⟩), .pointer (some ⟨q1, 0, none⟩), .pointer (some ⟨q2, 0, none⟩), undef, undef, .slice a n cap, .bool true, .bool false, .bool false, .slice b m cap', .bool true, .bool false, .bool false, .bool false, .slice a n cap, .int .i64 mo, .slice b m cap', .int .i64 mo, .bool false, .bool false, .slice a n cap, .slice b m cap', .func (.func 140) #[] #[.pointer (some ⟨H + 1, 0, none⟩), .pointer (some ⟨H + 1 + 1, 0, none⟩)], .agg #[.int .i64 x.keep, .string x.add, .int .i64 x.drop], .agg #[.int .i64 y.keep, .string y.add, .int .i64 y.drop], undef, undef, undef, undef, undef, undef, undef, undef, undef, undef, undef, undef, undef, undef, undef, undef, undef, undef, undef, undef, undef], defers := [] }
def TAx (a b : Option Addr) (n cap m cap' : Nat) (mo : Int) (H N : Nat) (z : Rn × Rn) (a' : Act) (W : World) : Prop := ∃ q1 q2, a' = TA a b n cap m cap' mo H z.1 z.2 q1 q2 ∧ W.heap[q1]? = some (.cells #[.int .i64 z.1.keep, .string z.1.add, .int .i64 z.1.drop] 91 (0, 0)) ∧ W.heap[q2]? = some (.cells #[.int .i64 z.2.keep, .string z.2.add, .int .i64 z.2.drop] 91 (0, 0)) ∧ N + 4 ≤ q1
theorem tax_own (a b : Option Addr) (n cap m cap' : Nat) (mo : Int) (H N : Nat) (z : Rn × Rn) (a' : Act) : Own (fun (_ : Unit) W => TAx a b n cap m cap' mo H N z a' W) := fun _ X Y row h hg hrow => by
  obtain ⟨q1, q2, e, h1, h2, h3⟩ := h
  exact ⟨q1, q2, e, cells_keep h1 hg hrow, cells_keep h2 hg hrow, h3⟩
/-- Between two rounds of Two. -/
def TJ (w : World) (H N : Nat) (pre : List (Rn × Rn)) (W : World) : Prop := (∃ v, Boxed W H 77 v ∧ OwnR W (N + 4) v (outL pre)) ∧ Below w.heap.size w W
theorem tj_own (w : World) (H N B : Nat) (hH : H < N) (hw : w.heap.size ≤ N) (hB : w.heap.size ≤ B) : OwnIn N (N + 4) B (TJ w H N) := by
  refine OwnIn.and ⟨fun pre X Y row h hg hrow => ?_, fun pre X Y h hw => ?_⟩ (ownIn_below (Nat.le_refl _) hB hw)
  · obtain ⟨v, hb, ho⟩ := h
    exact ⟨v, cells_keep hb hg fun r e => (hrow r e).2, ho.kept fun q hq => by obtain ⟨cur, e⟩ := ho.typ hq; rw [e]; exact cells_keep e hg fun r e => (hrow r e).2⟩
  · obtain ⟨v, hb, ho⟩ := h
    exact ⟨v, hw.keeps hb (.inl (.inl hH)), ho.kept fun q hq => by obtain ⟨cur, e⟩ := ho.typ hq; rw [e]; exact hw.keeps e (.inl (.inr (ho.lt hq).1))⟩
theorem prs_len (k : Nat) : ∀ (a b : List Rn), (∀ x ∈ a, kind x ≠ 0) → (∀ x ∈ b, kind x ≠ 0) → (prs k a b).length ≤ k := by
  induction k with
  | zero => intro a b _ _; exact Nat.le_refl _
  | succ k ih =>
    intro a b ha hb
    by_cases hs : (stepM (a.headD rn0) (b.headD rn0)).1 = 0 ∧ (stepM (a.headD rn0) (b.headD rn0)).2 = 0
    · rw [prs_none ha hb hs]; exact Nat.zero_le _
    · have hle := stepM_le (a.headD rn0) (b.headD rn0)
      rw [prs_some ha hb rfl hs, List.length_cons]
      exact Nat.succ_le_succ (ih _ _ (rst_kinds ha hle.1) (rst_kinds hb hle.2))
theorem outL_len (l : List (Rn × Rn)) : (outL l).length ≤ l.length := by
  unfold outL
  exact Nat.le_trans (List.length_filter_le _ _) (by simp)
theorem kr_zero {k d : Int} {s : ByteArray} (h1 : k = 0) (h2 : s.toList = []) (h3 : d = 0) : kind ⟨k, s, d⟩ = 0 := kind_zero (fun h => by have := h.1; omega) (fun h => h.2.1 h2) (fun h => by have := h.2.2; omega)
theorem kr_some {k d : Int} {s : ByteArray} (h : KR ⟨k, s, d⟩) (hn : ¬ (k = 0 ∧ s.toList = [] ∧ d = 0)) : kind ⟨k, s, d⟩ ≠ 0 := by
  rcases h with h | h
  · exact h
  · exfalso
    injection h with h1 h2 h3
    exact hn ⟨h1, by rw [h2, toList_data], h3⟩
theorem cells_one (X : World) (r : Rn) (j : Nat) (u : Value) (h : (cellsR [r])[j]? = some u) : (X.alloc (.cells #[.int .i64 r.keep, .string r.add, .int .i64 r.drop] 91)).cell? ((⟨X.heap.size, 0, none⟩ : Addr).add j) = some u :=
  World.news_of_block (cs := #[.int .i64 r.keep, .string r.add, .int .i64 r.drop]) (World.alloc_heap_new X _) j u h

theorem own_snoc {W : World} {B : Nat} {v : Value} {L : List Rn} {r : Rn} (h : W.ownsRow B 91 3 v (L.length + 1) (cellsR L ++ cellsR [r])) : OwnR W B v (L ++ [r]) := by
  unfold OwnR
  rw [cellsR_append, List.length_append]
  exact h
theorem keepq_below {n₀ N : Nat} {W X : World} (hn : n₀ ≤ W.heap.size) (hb : Below W.heap.size W X) : KeepQ n₀ N W X := ⟨hb.mono hn, fun k cs t _ _ hk => (hb.block _ (lt_of_heap hk)).trans hk⟩
theorem tj_same {w : World} {H N : Nat} {W X : World} {pre pre' : List (Rn × Rn)} (hI : TJ w H N pre W) (he : outL pre' = outL pre) (hb : Below W.heap.size W X) : TJ w H N pre' X := by
  obtain ⟨⟨v, h1, h2⟩, h3⟩ := hI
  refine ⟨⟨v, (hb.block _ (lt_of_heap h1)).trans h1, ?_⟩, h3.trans (hb.mono h3.size)⟩
  rw [he]
  exact h2.kept fun q hq => hb.block q (h2.lt hq).2
theorem tj_more {w : World} {H N : Nat} {W X w3 : World} {v v1 : Value} {pre' : List (Rn × Rn)} {L : List Rn} {r : Rn} (hH : H < N) (hw : w.heap.size ≤ H) (hvb : Boxed W H 77 v) (hvo : OwnR W (N + 4) v L) (hB : Below w.heap.size w W)
    (hbX : Below W.heap.size W X) (hg : X.grownBy w3 v.ownBlock) (ho : OwnR w3 (N + 4) v1 (L ++ [r])) (he : outL pre' = L ++ [r]) (B : Nat) :
    KeepsFrom B W (w3.setCell ⟨H, 0, none⟩ v1) ∧ KeepQ w.heap.size N W (w3.setCell ⟨H, 0, none⟩ v1) ∧ TJ w H N pre' (w3.setCell ⟨H, 0, none⟩ v1) := by
  have hO : Only (fun k => k = H ∨ v.ownBlock = some k) W (w3.setCell ⟨H, 0, none⟩ v1) :=
    ((only_below hbX).trans (Only.grown hg fun k hk => .inr hk)).trans (Only.setCell w3 ⟨H, 0, none⟩ v1 (.inl rfl))
  have h3 : w3.heap[H]? = some (.cells #[v] 77 (0, 0)) := (hg.block H (Nat.lt_of_lt_of_le (lt_of_heap hvb) hbX.size) (fun e => by have := (hvo.lt e.symm).1; omega)).trans ((hbX.block H (lt_of_heap hvb)).trans hvb)
  refine ⟨keepsFrom_only hO fun k hk => ?_, ⟨hO.below hB.size fun k hk => ?_, fun k cs t h1 h2 hk => ?_⟩, ⟨v1, ?_, ?_⟩, ?_⟩
  · rcases hk with rfl | hk
    · exact ⟨_, _, _, hvb⟩
    · obtain ⟨cur, e⟩ := hvo.typ hk
      exact ⟨_, _, _, e⟩
  · rcases hk with rfl | hk
    · exact hw
    · have := (hvo.lt hk).1; omega
  · exact (hO.block k (lt_of_heap hk) (fun e => by
      rcases e with rfl | e
      · omega
      · have := (hvo.lt e).1; omega)).trans hk
  · have := heap_setCell (i := 0) h3 v1
    exact this
  · rw [he]
    exact ho.kept fun q hq => Below.heap_setCell w3 ⟨H, 0, none⟩ v1 q (fun e => by have := (ho.lt hq).1; have e2 : q = H := e; omega)
  · exact hB.trans (hO.below hB.size fun k hk => by
      rcases hk with rfl | hk
      · exact hw
      · have := (hvo.lt hk).1; omega)
theorem split_zero (k d : Int) (s : ByteArray) : (k = 0 ∧ s.toList = [] ∧ d = 0) ∨ ¬ k = 0 ∨ (k = 0 ∧ ¬ s.toList = []) ∨ (k = 0 ∧ s.toList = [] ∧ ¬ d = 0) := by
  by_cases h1 : k = 0 <;> by_cases h2 : s.toList = [] <;> by_cases h3 : d = 0 <;> simp [h1, h2, h3]

set_option maxRecDepth 100000 in
set_option maxHeartbeats 4000000 in
theorem two_any (a b : Option Addr) (cap cap' : Nat) (rs ss : List Rn) (w : World) (hS : CameR w.heap.size w a rs) (hS' : CameR w.heap.size w b ss) (hc : rs.length ≤ cap) (hc' : ss.length ≤ cap') (hlr : rs.length ≤ 1000000) (hls : ss.length ≤ 1000000)
    (hl : fit2 rs ss = true → (expand rs).length + (expand ss).length ≤ 200000) :
    Calls Try.prog 82 #[.slice a rs.length cap, .slice b ss.length cap'] w fun e W' => Gives2C w.heap.size w (twoO rs ss) (twoE rs ss) e W' := by
  have h1 : 1 ≤ 3 := by omega
  have hro : Fence.wide.round = none := rfl
  have h82 : Fence.wide.fn 82 := trivial
  have h51 : Fence.wide.fn 51 := trivial
  have h53 : Fence.wide.fn 53 := trivial
  have h55 : Fence.wide.fn 55 := trivial
  have h60 : Fence.wide.fn 60 := trivial
  have h117 : Fence.wide.fn 117 := trivial
  have h118 : Fence.wide.fn 118 := trivial
  have h140 : Fence.wide.fn 140 := trivial
  obtain ⟨i0, hi, hz0, hz1, hz2⟩ := info_parts (show (Try.prog.info? 91).map (fun i => (i.zero, i.size, i.bytes)) = some (some (.agg #[.int .i64 0, .string ⟨#[]⟩, .int .i64 0]), 3, 32) by kernel_rfl)
  refine (callsIn_wide (n := 3)).1 ?_
  refine callsIn_of_wp_marks Try.func82 rfl h82 ?_ hro
  simp only [Try.ntmps82, List.size_toArray, List.length_cons, List.length_nil, Nat.reduceAdd, Nat.reduceSub, Array.replicate_succ, Array.replicate_zero, List.push_toArray, List.append_toArray, List.nil_append, List.cons_append]
  have HGA : Hid (∀ W, Below w.heap.size w W → Calls Try.prog 51 #[.slice a rs.length cap] W fun e W' => e = .returned (.bool (isG rs)) ∧ Below W.heap.size W W') := hide fun W hW => good_any a cap rs W ((hS.below hW).mono hW.size) hlr
  have HGB : Hid (∀ W, Below w.heap.size w W → Calls Try.prog 51 #[.slice b ss.length cap'] W fun e W' => e = .returned (.bool (isG ss)) ∧ Below W.heap.size W W') := hide fun W hW => good_any b cap' ss W ((hS'.below hW).mono hW.size) hls
  have HOA : Hid (∀ W, Below w.heap.size w W → Calls Try.prog 55 #[.slice a rs.length cap] W fun e W' => e = .returned (.int .i64 (mOut (meas rs))) ∧ Below W.heap.size W W') := hide fun W hW => out_any a cap rs W ((hS.below hW).mono hW.size) hlr
  have HIB : Hid (∀ W, Below w.heap.size w W → Calls Try.prog 53 #[.slice b ss.length cap'] W fun e W' => e = .returned (.int .i64 (mIn (meas ss))) ∧ Below W.heap.size W W') := hide fun W hW => in_any b cap' ss W ((hS'.below hW).mono hW.size) hls
  have HS := hide (And.intro hS hS')
  have HC := hide (And.intro hc hc')
  have HL := hide hl
  have HW0 := hide (Below.refl w.heap.size w)
  clear hS hS' hc hc' hlr hls hl
  have hout : fit2 rs ss = false → Hid (twoO rs ss = [] ∧ twoE rs ss = 60) := fun h => hide (by rw [twoO, twoE, h]; exact ⟨rfl, rfl⟩)
  cases ga : isG rs with
  | false =>
    have HF := hout (by rw [fit2, ga]; rfl)
    rw [ga] at HGA
    clear hout ga
    gi_wp2_with (gi_at_call 51; with_reducible refine (callsIn_wide.2 (HGA.out w HW0.out)).mono ?_; rintro e W1 ⟨rfl, hb⟩; have HW1 := hide hb; clear hb)
    refine ⟨.tuple #[.slice none 0 0, .int .i64 60], ?_, none, 0, by rw [HF.out.1, HF.out.2]; rfl, by rw [HF.out.1]; exact .inl rfl, by rw [HF.out.1]; exact Nat.le_refl _, HW1.out⟩
    simp [results, Try.f82, go_sem]
  | true =>
    rw [ga] at HGA
    cases gb : isG ss with
    | false =>
      have HF := hout (by rw [fit2, ga, gb]; rfl)
      rw [gb] at HGB
      clear hout ga gb
      gi_wp2_with (gi_at_call 51; with_reducible refine (callsIn_wide.2 (HGA.out w HW0.out)).mono ?_; rintro e W1 ⟨rfl, hb⟩; have HW1 := hide hb; clear hb)
      gi_wp2_with (gi_at_call 51; with_reducible refine (callsIn_wide.2 (HGB.out W1 HW1.out)).mono ?_; rintro e W2 ⟨rfl, hb⟩; have HW2 := hide (HW1.out.trans (hb.mono HW1.out.size)); clear hb)
      refine ⟨.tuple #[.slice none 0 0, .int .i64 60], ?_, none, 0, by rw [HF.out.1, HF.out.2]; rfl, by rw [HF.out.1]; exact .inl rfl, by rw [HF.out.1]; exact Nat.le_refl _, HW2.out⟩
      simp [results, Try.f82, go_sem]
    | true =>
      rw [gb] at HGB
      by_cases hm : mOut (meas rs) = mIn (meas ss)
      · have hfit : fit2 rs ss = true := by rw [fit2, ga, gb, decide_eq_true hm]; rfl
        have HM := hide hm
        obtain ⟨mo, hmo⟩ : ∃ mo, mIn (meas ss) = mo := ⟨_, rfl⟩
        rw [hm, hmo] at HOA
        rw [hmo] at HIB
        clear hout ga gb hm hmo HM
        have HFIT := hide hfit
        clear hfit
        gi_wp2_with (gi_at_call 51; with_reducible refine (callsIn_wide.2 (HGA.out w HW0.out)).mono ?_; rintro e W1 ⟨rfl, hb⟩; have HW1 := hide hb; clear hb)
        gi_wp2_with (gi_at_call 51; with_reducible refine (callsIn_wide.2 (HGB.out W1 HW1.out)).mono ?_; rintro e W2 ⟨rfl, hb⟩; have HW2 := hide (HW1.out.trans (hb.mono HW1.out.size)); clear hb)
        gi_wp2_with (gi_at_call 55; with_reducible refine (callsIn_wide.2 (HOA.out W2 HW2.out)).mono ?_; rintro e W3 ⟨rfl, hb⟩; have HW3 := hide (HW2.out.trans (hb.mono HW2.out.size)); clear hb)
        gi_wp2_with (gi_at_call 53; with_reducible refine (callsIn_wide.2 (HIB.out W3 HW3.out)).mono ?_; rintro e W4 ⟨rfl, hb⟩; have HW4 := hide (HW3.out.trans (hb.mono HW3.out.size)); clear hb)
        gi_wp2_with (gi_at_call 117; refine (callsIn_wide.2 (pairs_any a b rs.length cap ss.length cap' _)).mono ?_; rintro e w' ⟨rfl, rfl⟩)
        obtain ⟨H, hH⟩ : ∃ H, H = W4.heap.size := ⟨_, rfl⟩
        have hwH : w.heap.size ≤ H := by rw [hH]; exact HW4.out.size
        obtain ⟨W6, hW6⟩ : ∃ W6, W6 = (((W4.alloc (.cells #[.slice none 0 0] 77)).alloc (.cells #[.slice a rs.length cap] 77)).alloc (.cells #[.slice b ss.length cap'] 77)) := ⟨_, rfl⟩
        have hs6 : W6.heap.size = H + 3 := by rw [hW6, hH]; simp
        have hb6 : Below W4.heap.size W4 W6 := by rw [hW6]; exact Joins.below_alloc3 _ _ _ _
        have x0 := World.alloc_heap_new W4 (.cells #[.slice none 0 0] 77)
        have x1 := World.alloc_heap_new (W4.alloc (.cells #[.slice none 0 0] 77)) (.cells #[.slice a rs.length cap] 77)
        have x2 := World.alloc_heap_new ((W4.alloc (.cells #[.slice none 0 0] 77)).alloc (.cells #[.slice a rs.length cap] 77)) (.cells #[.slice b ss.length cap'] 77)
        have up : ∀ (X : World) (o o' : Obj) (k : Nat), X.heap[k]? = some o → (X.alloc o').heap[k]? = some o := fun X o o' k h => (Below.heap_alloc X o' k (lt_of_heap h)).trans h
        have y0 : W6.heap[H]? = some (.cells #[.slice none 0 0] 77 (0, 0)) := by rw [hW6, hH]; exact up _ _ _ _ (up _ _ _ _ x0)
        have y1 : W6.heap[H + 1]? = some (.cells #[.slice a rs.length cap] 77 (0, 0)) := by rw [hW6, hH]; simp only [World.size_alloc] at x1; exact up _ _ _ _ x1
        have y2 : W6.heap[H + 1 + 1]? = some (.cells #[.slice b ss.length cap'] 77 (0, 0)) := by rw [hW6, hH]; simp only [World.size_alloc] at x2; exact x2
        have hW06 : Below w.heap.size w W6 := HW4.out.trans (hb6.mono HW4.out.size)
        rw [← hW6, ← hH]
        obtain ⟨g1, g2, g3, g4, g5, g6, g7⟩ := fit2_facts HFIT.out
        have hKl := HL.out HFIT.out
        obtain ⟨Kt, hKt⟩ : ∃ Kt, Kt = (expand rs).length + (expand ss).length := ⟨_, rfl⟩
        have hstops := pairs_stops (3 - 1) (by omega) (H + 1) (H + 1 + 1) w.heap.size (H + 5) cap cap' Kt a b rs ss W6 g3 g4 (by omega) (by omega) hW06.size y1 y2 (HS.out.1.below hW06) (HS.out.2.below hW06) HC.out.1 HC.out.2
        have hsz2 : W6.heap.size + 2 = H + 5 := by omega
        rw [← hsz2] at hstops
        have hTO : expand (outL (prs Kt rs ss)) = twoT rs ss := outL_two HFIT.out (by omega)
        have hKR := prs_kr Kt rs ss g3 g4
        have hTL : (twoT rs ss).length ≤ 200000 := Nat.le_trans (cT_len _ _) (by omega)
        have hPL := prs_len Kt rs ss g3 g4
        have HK := hide (And.intro hKR (And.intro hTO (And.intro hTL (show (prs Kt rs ss).length ≤ 200000 by omega))))
        clear hPL
        have HWH := hide hwH
        have HS6 := hide hs6
        have H06 := hide hW06
        have HI0 : Hid (TJ w H (H + 5) [] W6) := hide ⟨⟨_, y0, OwnR.nil _ _⟩, hW06⟩
        clear hH hwH hW6 hs6 hb6 x0 x1 x2 up y0 y1 y2 hW06 g1 g2 g3 g4 g5 g6 g7 hKl hTO hKR hTL hsz2
        refine rangeFunc_own (d := 4) h1 (gf := 140) (lb := #[.pointer (some ⟨H + 1, 0, none⟩), .pointer (some ⟨H + 1 + 1, 0, none⟩)]) rfl (enters_of Try.func140 (by kernel_rfl) rfl) hstops
          (fun h h' => ⟨h.1.trans h'.1, fun k cs t e1 e2 e3 => h'.2 k cs t e1 e2 (h.2 k cs t e1 e2 e3)⟩)
          (fun W l o o' hl h hc hw => ⟨belowK_b H06.out.size W l o o' hl h hc hw, fun k cs t e1 e2 e3 => (World.putObj_heap_other (fun hk => by rw [← hk, e3] at h; cases h; cases hc)).trans e3⟩)
          (Below.refl _ _) (fun _ => rfl) (TJ w H (H + 5)) (fun _ _ _ => False) (by rw [HS6.out]; exact tj_own w H (H + 5) _ (by omega) (by have := HWH.out; omega) (by have := HWH.out; omega)) (fun c => ownIn_pure _ _ _ _) HI0.out
          (TAx a b rs.length cap ss.length cap' mo H (H + 5)) (fun z a' => Own.from (tax_own a b rs.length cap ss.length cap' mo H (H + 5) z a') _) ?assign ?body ?done ?stop
        case assign =>
          rintro l pre ⟨x, y⟩ W K hI hsz hK
          have hal := Joins.below_alloc2 W (.cells #[.int .i64 x.keep, .string x.add, .int .i64 x.drop] 91) (.cells #[.int .i64 y.keep, .string y.add, .int .i64 y.drop] 91)
          have hI2 := (tj_own w H (H + 5) W.heap.size (by omega) (by have := HWH.out; omega) hI.2.size).minds _ _ _ hI (.inl hal)
          have hs := HS6.out
          have HZ := hide (hK (TA a b rs.length cap ss.length cap' mo H x y W.heap.size (W.heap.size + 1)) _ (KeepsFrom.of_below hal) ⟨hal.mono hI.2.size, fun k cs t _ _ hk => (hal.block _ (lt_of_heap hk)).trans hk⟩ hI2
            ⟨_, _, rfl, (Below.heap_alloc _ _ _ (by simp)).trans (World.alloc_heap_new W _), by have := World.alloc_heap_new (W.alloc (.cells #[.int .i64 x.keep, .string x.add, .int .i64 x.drop] 91)) (.cells #[.int .i64 y.keep, .string y.add, .int .i64 y.drop] 91); rwa [World.size_alloc] at this, by omega⟩)
          clear hK hal hI2 hI hs hsz
          unfold encQ Rn.val
          dsimp only
          gi_wp2
          exact HZ.out
        case body =>
          rintro l pre ⟨x, y⟩ a' W hl0 hI ⟨q1, q2, rfl, hq1, hq2, hN4⟩ hpre
          obtain ⟨⟨v, hvb, hvo⟩, hvB⟩ := hI
          obtain ⟨ua, uc, rfl⟩ := hvo.form
          have hmem : (x, y) ∈ prs Kt rs ss := hpre.subset (by simp)
          have hkr := HK.out.1 _ hmem
          have hkb := kr_both hkr.1 hkr.2
          have hsn := outL_snoc pre (x, y)
          have hlen : (outL pre).length ≤ 200000 := Nat.le_trans (outL_len pre) (Nat.le_trans (by have := hpre.length_le; simp at this; omega) HK.out.2.2.2)
          have hbo := both_any x y
          dsimp only at hsn hq1 hq2 hkb
          generalize bothR x y = r at hkb hsn hbo
          obtain ⟨rk, ra, rd⟩ := r
          obtain ⟨xk, xa, xd⟩ := x
          obtain ⟨yk, ya, yd⟩ := y
          unfold Rn.val at hbo
          dsimp only at hbo hq1 hq2
          obtain ⟨c0, c1, c2⟩ := cellsq hq1
          obtain ⟨d0, d1, d2⟩ := cellsq hq2
          have HBO := hide hbo
          have HZ0 : Hid (rk = 0 → ra.toList = [] → rd = 0 → outL (pre ++ [((⟨xk, xa, xd⟩ : Rn), (⟨yk, ya, yd⟩ : Rn))]) = outL pre) := hide fun e1 e2 e3 => by
            rw [hsn, if_neg (by rw [kr_zero e1 e2 e3]; simp), List.append_nil]
          have HZ1 : Hid (¬ (rk = 0 ∧ ra.toList = [] ∧ rd = 0) → outL (pre ++ [((⟨xk, xa, xd⟩ : Rn), (⟨yk, ya, yd⟩ : Rn))]) = outL pre ++ [⟨rk, ra, rd⟩]) := hide fun hn => by
            rw [hsn, if_pos (kr_some hkb hn)]
          generalize hL0 : outL pre = L0 at *
          have HL0 := hide hL0
          have hHs : H < W.heap.size := lt_of_heap hvb
          have HI := hide (show TJ w H (H + 5) pre W from ⟨⟨_, hvb, by rw [hL0]; exact hvo⟩, hvB⟩)
          have HVO := hide hvo
          have HVB := hide hvb
          have HLN := hide hlen
          have HBW := hide hvB
          have HSZ := hide (show H + 5 + 4 ≤ W.heap.size from Nat.le_trans hN4 (Nat.le_of_lt (lt_of_heap hq1)))
          have HFACT : Hid (∀ W1, Below W.heap.size W W1 → ((W1.alloc (.cells #[.int .i64 rk, .string ra, .int .i64 rd] 91)).alloc (.cells #[.int .i64 rk, .string ra, .int .i64 rd] 91)).ownsRow (H + 5 + 4) 91 3 (.slice ua L0.length uc) L0.length (cellsR L0) ∧
              (∀ i u, (cellsR [(⟨rk, ra, rd⟩ : Rn)])[i]? = some u → ((W1.alloc (.cells #[.int .i64 rk, .string ra, .int .i64 rd] 91)).alloc (.cells #[.int .i64 rk, .string ra, .int .i64 rd] 91)).cell? ((⟨W1.heap.size + 1, 0, none⟩ : Addr).add i) = some u) ∧
              (W1.alloc (.cells #[.int .i64 rk, .string ra, .int .i64 rd] 91)).cell? ⟨H, 0, none⟩ = some (.slice ua L0.length uc) ∧ Below W.heap.size W (W1.alloc (.cells #[.int .i64 rk, .string ra, .int .i64 rd] 91)) ∧ Below W.heap.size W ((W1.alloc (.cells #[.int .i64 rk, .string ra, .int .i64 rd] 91)).alloc (.cells #[.int .i64 rk, .string ra, .int .i64 rd] 91))) := hide fun W1 hb => by
            have ho1 : OwnR W1 (H + 5 + 4) (.slice ua L0.length uc) L0 := hvo.kept fun q hq => hb.block q (hvo.lt hq).2
            have hv1 : W1.heap[H]? = some (.cells #[.slice ua L0.length uc] 77 (0, 0)) := (hb.block _ (lt_of_heap hvb)).trans hvb
            have hv2 := (Below.heap_alloc W1 (.cells #[.int .i64 rk, .string ra, .int .i64 rd] 91) _ (lt_of_heap hv1)).trans hv1
            exact ⟨World.ownsRow.alloc (World.ownsRow.alloc ho1 _) _, fun i u hu => (by have h := cells_one (W1.alloc (.cells #[.int .i64 rk, .string ra, .int .i64 rd] 91)) ⟨rk, ra, rd⟩ i u hu; rw [World.size_alloc] at h; exact h), by rw [Joins.cell_of_block hv2]; rfl, hb.alloc hb.size _, (hb.alloc hb.size _).alloc (by have := hb.size; simp; omega) _⟩
          have hs6 := HS6.out
          have hsplit := split_zero rk rd ra
          clear hvb hvo hvB hmem hkr hkb hsn hbo hq1 hq2 hN4 hlen hHs hpre hL0 hs6
          unfold TA
          dsimp only
          rcases hsplit with ⟨rfl, ez2, rfl⟩ | ez1 | ⟨rfl, ez2⟩ | ⟨rfl, ez2, ez3⟩
          · gi_wp2_with (gi_at_call 118; with_reducible refine (CallsIn.inRound l (callsIn_wide.2 (HBO.out W))).mono ?_; rintro e W1 ⟨rfl, hb⟩; have HF1 := hide (HFACT.out W1 hb); clear hb)
            have he : outL (pre ++ [((⟨xk, xa, xd⟩ : Rn), (⟨yk, ya, yd⟩ : Rn))]) = L0 := by first | exact HZ0.out rfl ez2 rfl | exact HZ0.out trivial ez2 trivial | simpa using HZ0.out
            exact ⟨KeepsFrom.of_below HF1.out.2.2.2.1, by rw [HS6.out]; exact keepq_below HBW.out.size HF1.out.2.2.2.1, tj_same HI.out (by rw [he]; exact HL0.out.symm) HF1.out.2.2.2.1⟩
          all_goals
            have HE := hide (HZ1.out (by first | exact fun h => ez1 h.1 | exact fun h => ez2 h.2.1 | exact fun h => ez3 h.2.2))
            have HMORE := hide fun (X w3 : World) (v1 : Value) (hX : Below W.heap.size W X) (hg : X.grownBy w3 (Value.slice ua L0.length uc).ownBlock) (ho : OwnR w3 (H + 5 + 4) v1 (L0 ++ [_])) => tj_more (show H < H + 5 by omega) HWH.out HVB.out HVO.out HBW.out hX hg ho HE.out W6.heap.size
            gi_wp2_with (first
              | (gi_at_call 118; with_reducible refine (CallsIn.inRound l (callsIn_wide.2 (HBO.out W))).mono ?_; rintro e W1 ⟨rfl, hb⟩; have HF1 := hide (HFACT.out W1 hb); have zc := HF1.out.2.2.1; clear hb)
              | (gi_at_builtin; (
                 refine wpListIn_append_own _ rfl (.tmp 37) (.tmp 39) 77 rfl (H + 5 + 4) 91 i0 (.agg #[.int .i64 0, .string ⟨#[]⟩, .int .i64 0]) 3 32 Try.underlying77 hi hz0 hz1 hz2 rfl (by decide) _ _ _ rfl HF1.out.1 ⟨_, 0, none⟩ 1 1 _ rfl rfl HF1.out.2.1 (oneCellR _) (by have := HLN.out; unfold maxLen; omega) (by have := HLN.out; omega) (Nat.le_trans HSZ.out HF1.out.2.2.2.2.size) ?_
                 intro v1 w3 hr hg hx
                 have ho := own_snoc hr
                 clear hx hr
                 obtain ⟨va, vc, rfl⟩ := ho.form
                 have hb3 : w3.heap[H]? = some (.cells #[.slice ua L0.length uc] 77 (0, 0)) := (hg.block H (Nat.lt_of_lt_of_le (lt_of_heap HVB.out) HF1.out.2.2.2.2.size) (fun e => by have := (HVO.out.lt e.symm).1; omega)).trans ((HF1.out.2.2.2.2.block H (lt_of_heap HVB.out)).trans HVB.out)
                 have y0 : w3.cell? ⟨H, 0, none⟩ = some (.slice ua L0.length uc) := by rw [Joins.cell_of_block hb3]; rfl
                 have y1 := unfrozen (i := 0) hb3
                 have HFIN := hide (HMORE.out _ w3 _ HF1.out.2.2.2.2 hg ho)
                 clear hg ho hb3 zc)))
            obtain ⟨f1, f2, f3⟩ := HFIN.out
            simp only [List.length_append, List.length_cons, List.length_nil, Nat.zero_add] at f1 f2 f3
            exact ⟨f1, by rw [HS6.out]; exact f2, f3⟩
        case done =>
          rintro D xs W hD rfl hI hK
          obtain ⟨⟨v, hvb, hvo⟩, hB⟩ := hI
          obtain ⟨ua, uc, rfl⟩ := hvo.form
          obtain ⟨hKR, hTO, hTL, hPL⟩ := HK.out
          have hn := norm_cap ua uc (outL (prs Kt rs ss)) W hvo.came (Nat.le_trans (outL_len _) (by omega))
          rw [normR_K, hTO] at hn
          have hnil : outL (prs Kt rs ss) = [] ↔ twoT rs ss = [] := by rw [nil_kinds (outL_kinds _), hTO]
          generalize outL (prs Kt rs ss) = L0 at *
          have hT : twoO rs ss = normK (twoT rs ss) ∧ twoE rs ss = if normK (twoT rs ss) = [] ∧ twoT rs ss ≠ [] then 31 else 0 := by rw [twoO, twoE, HFIT.out]; exact ⟨rfl, rfl⟩
          generalize normK (twoT rs ss) = O at *
          have HNR := hide hn
          have HBW := hide hB
          have HKD := hide hK
          have HVB := hide hvb
          have z0 : W.cell? ⟨H, 0, none⟩ = some (.slice ua L0.length uc) := hvb.cell
          have hfin : ∀ W5 a5 c5 x, Below W.heap.size W W5 → CameR W5.heap.size W5 a5 O → O.length ≤ c5 → twoE rs ss = x → W5.heap[D]? = some (Obj.deferred (some [])) ∧ Gives2C w.heap.size w (twoO rs ss) (twoE rs ss) (.returned (.tuple #[.slice a5 O.length c5, .int .i64 x])) (W5.putObj D (.deferred none)) := fun W5 a5 c5 x hb hc hcp hx => by
            have hK5 : W5.heap[D]? = some (Obj.deferred (some [])) := (hb.block _ (lt_of_heap hK)).trans hK
            refine ⟨hK5, a5, c5, by rw [hT.1, hx], by rw [hT.1]; exact came_put hc hK5 _, by rw [hT.1]; exact hcp, (hB.trans (hb.mono hB.size)).trans (belowK_b (w := w) (Nat.le_refl _) W5 D _ (Obj.deferred none) (Nat.le_trans H06.out.size hD) hK5 rfl rfl)⟩
          have HFN := hide hfin
          have HTE := hide hT.2
          have HNL := hide hnil
          clear hfin hT hnil hvo hKR hTO hTL hPL hn hB hK hvb
          by_cases hO : O = []
          · by_cases hL : L0 = []
            · have hx : twoE rs ss = 0 := by rw [HTE.out, if_neg (fun h => h.2 (HNL.out.1 hL))]
              have HX := hide hx
              clear hx
              subst hO hL
              gi_wp2_with (gi_at_call 60; (refine (callsIn_wide.2 HNR.out).mono ?_; rintro e W5 ⟨a5, c5, rfl, hc, hcp, hb⟩; have y0 := (hb.cell (p := ⟨H, 0, none⟩) (lt_of_heap HVB.out)).trans z0; have HF5 := hide (HFN.out W5 a5 c5 0 hb hc hcp HX.out); clear hc hcp hb))
              refine ⟨by simp, .inl ⟨_, _, rfl, run_takeDeferred HF5.out.1, ?_⟩⟩
              refine ⟨.tuple #[.slice a5 0 c5, .int .i64 0], ?_, HF5.out.2⟩
              simp [results, Try.f82, go_sem]
            · have hx : twoE rs ss = 31 := by rw [HTE.out, if_pos ⟨hO, fun h => hL (HNL.out.2 h)⟩]
              have HX := hide hx
              clear hx
              have hl0 : 0 < L0.length := List.length_pos_iff.2 hL
              subst hO
              clear hL
              gi_wp2_with (gi_at_call 60; (refine (callsIn_wide.2 HNR.out).mono ?_; rintro e W5 ⟨a5, c5, rfl, hc, hcp, hb⟩; have y0 := (hb.cell (p := ⟨H, 0, none⟩) (lt_of_heap HVB.out)).trans z0; have HF5 := hide (HFN.out W5 none 0 31 hb (.inl rfl) (Nat.le_refl _) HX.out); clear hc hcp hb))
              refine ⟨by simp, .inl ⟨_, _, rfl, run_takeDeferred HF5.out.1, ?_⟩⟩
              refine ⟨.tuple #[.slice none 0 0, .int .i64 31], ?_, HF5.out.2⟩
              simp [results, Try.f82, go_sem]
          · have hx : twoE rs ss = 0 := by rw [HTE.out, if_neg (fun h => hO h.1)]
            have HX := hide hx
            clear hx
            have ho0 : ¬ O.length = 0 := fun h => hO (List.eq_nil_of_length_eq_zero h)
            clear hO
            gi_wp2_with (gi_at_call 60; (refine (callsIn_wide.2 HNR.out).mono ?_; rintro e W5 ⟨a5, c5, rfl, hc, hcp, hb⟩; have y0 := (hb.cell (p := ⟨H, 0, none⟩) (lt_of_heap HVB.out)).trans z0; have HF5 := hide (HFN.out W5 a5 c5 0 hb hc hcp HX.out); clear hc hcp hb))
            refine ⟨by simp, .inl ⟨_, _, rfl, run_takeDeferred HF5.out.1, ?_⟩⟩
            refine ⟨.tuple #[.slice a5 O.length c5, .int .i64 0], ?_, HF5.out.2⟩
            simp [results, Try.f82, go_sem]
        case stop =>
          rintro D cc pre W hD hpre hno hK
          exact hno.elim
      · have HF := hout (by rw [fit2, decide_eq_false hm, Bool.and_false])
        have HM := hide hm
        obtain ⟨mo, hmo⟩ : ∃ mo, mIn (meas ss) = mo := ⟨_, rfl⟩
        obtain ⟨mi, hmi⟩ : ∃ mi, mOut (meas rs) = mi := ⟨_, rfl⟩
        rw [hmi] at HOA hm
        rw [hmo] at HIB hm
        clear hout ga gb hmo hmi HM
        gi_wp2_with (gi_at_call 51; with_reducible refine (callsIn_wide.2 (HGA.out w HW0.out)).mono ?_; rintro e W1 ⟨rfl, hb⟩; have HW1 := hide hb; clear hb)
        gi_wp2_with (gi_at_call 51; with_reducible refine (callsIn_wide.2 (HGB.out W1 HW1.out)).mono ?_; rintro e W2 ⟨rfl, hb⟩; have HW2 := hide (HW1.out.trans (hb.mono HW1.out.size)); clear hb)
        gi_wp2_with (gi_at_call 55; with_reducible refine (callsIn_wide.2 (HOA.out W2 HW2.out)).mono ?_; rintro e W3 ⟨rfl, hb⟩; have HW3 := hide (HW2.out.trans (hb.mono HW2.out.size)); clear hb)
        gi_wp2_with (gi_at_call 53; with_reducible refine (callsIn_wide.2 (HIB.out W3 HW3.out)).mono ?_; rintro e W4 ⟨rfl, hb⟩; have HW4 := hide (HW3.out.trans (hb.mono HW3.out.size)); clear hb)
        refine ⟨.tuple #[.slice none 0 0, .int .i64 60], ?_, none, 0, by rw [HF.out.1, HF.out.2]; rfl, by rw [HF.out.1]; exact .inl rfl, by rw [HF.out.1]; exact Nat.le_refl _, HW4.out⟩
        simp [results, Try.f82, go_sem]

end Go.Proofs.Ytpmijaplkbmbiaa.E
