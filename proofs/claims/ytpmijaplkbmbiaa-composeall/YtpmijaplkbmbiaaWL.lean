/- compose's pairs: two edits side by side. -/
import Derived.Test.YtpmijaplkbmbiaaWK
import Derived.Test.YtpmijaplkbmbiaaX7
import Derived.Sort.LoopGhostIn
namespace Go.Proofs.Ytpmijaplkbmbiaa.E
open Go.Proofs.Ytpmijaplkbmbiaa Go.RowKit Go.By Go.Shelf
set_option linter.unusedVariables false
set_option linter.unusedSimpArgs false
attribute [local go_sem] Oper.semAt_some

/-- Four blocks of the first four, no two the same. -/
def Apart (N g1 o1 g2 o2 : Nat) : Prop := (N ≤ g1 ∧ g1 < N + 4) ∧ (N ≤ o1 ∧ o1 < N + 4) ∧ (N ≤ g2 ∧ g2 < N + 4) ∧ (N ≤ o2 ∧ o2 < N + 4) ∧ g1 ≠ o1 ∧ g1 ≠ g2 ∧ g1 ≠ o2 ∧ o1 ≠ g2 ∧ o1 ≠ o2 ∧ g2 ≠ o2
theorem Apart.swap {N g1 o1 g2 o2 : Nat} (h : Apart N g1 o1 g2 o2) : Apart N g2 o2 g1 o1 := by unfold Apart at *; omega
theorem rd_up {n₀ g o : Nat} {x : Rn} {p : List Rn} {X Y : World} (h : RdSt n₀ g o x p X) (hb : Below X.heap.size X Y) (hn : n₀ ≤ X.heap.size) : RdSt n₀ g o x p Y := by
  obtain ⟨h1, pa, cap, h2, hS, hc⟩ := h
  exact ⟨(hb.block _ (lt_of_heap h1)).trans h1, pa, cap, (hb.block _ (lt_of_heap h2)).trans h2, hS.below (hb.mono hn), hc⟩
theorem rd_other {n₀ N g1 o1 g2 o2 : Nat} {x : Rn} {p : List Rn} {X Y : World} (h : RdSt n₀ g2 o2 x p X) (ho : Only (fun k => k = g1 ∨ k = o1) X Y) (ha : Apart N g1 o1 g2 o2) (hn : n₀ ≤ N) : RdSt n₀ g2 o2 x p Y := by
  obtain ⟨h1, pa, cap, h2, hS, hc⟩ := h
  unfold Apart at ha
  have hl := lt_of_heap h1
  exact ⟨(ho.block _ (lt_of_heap h1) (by omega)).trans h1, pa, cap, (ho.block _ (lt_of_heap h2) (by omega)).trans h2, hS.below (ho.below (by omega) fun i hi => by omega), hc⟩
/-- A step of a reader is two writes among the first four blocks, and new blocks. -/
theorem minds_step {n₀ N g1 o1 g2 o2 : Nat} {x x' : Rn} {p p' : List Rn} {X Y : World} {β : Type} {J : β → World → Prop} {s : β} (hJ : MindsIn N (N + 4) J) (ha : Apart N g1 o1 g2 o2) (h : RdSt n₀ g1 o1 x p X) (h' : RdSt n₀ g1 o1 x' p' Y) (ho : Only (fun k => k = g1 ∨ k = o1) X Y) (hs : J s X) : J s Y := by
  obtain ⟨h1, pa, cap, h2, _⟩ := h
  obtain ⟨h1', pa', cap', h2', _⟩ := h'
  unfold Apart at ha
  have hne : o1 ≠ g1 := by omega
  have z1 : WroteIn N (N + 4) X (X.setRow g1 #[.int .i64 x'.keep, .string x'.add, .int .i64 x'.drop]) := ⟨g1, _, _, ha.1, h1, Only.setRow (S := fun k => k = g1) X g1 _ rfl⟩
  have k2 : (X.setRow g1 #[.int .i64 x'.keep, .string x'.add, .int .i64 x'.drop]).heap[o1]? = some (.cells #[.slice pa p.length cap] 77 (0, 0)) := (setRow_other X g1 o1 _ hne).trans h2
  have z2 : WroteIn N (N + 4) (X.setRow g1 #[.int .i64 x'.keep, .string x'.add, .int .i64 x'.drop]) ((X.setRow g1 #[.int .i64 x'.keep, .string x'.add, .int .i64 x'.drop]).setRow o1 #[.slice pa' p'.length cap']) := ⟨o1, _, _, ha.2.1, k2, Only.setRow (S := fun k => k = o1) _ o1 _ rfl⟩
  refine hJ _ _ _ (hJ _ _ _ (hJ _ _ _ hs (.inr z1)) (.inr z2)) (.inl ⟨ho.os, ho.tape, ho.output, by simpa [World.setRow] using ho.size, fun k hk => ?_⟩)
  have hk' : k < X.heap.size := by simpa [World.setRow] using hk
  by_cases e1 : k = o1
  · subst e1
    rw [h2', setRow_heap _ _ _ _ _ _ k2]
  · rw [setRow_other _ o1 k _ e1]
    by_cases e2 : k = g1
    · subst e2
      rw [h1', setRow_heap _ _ _ _ _ _ h1]
    · rw [setRow_other _ g1 k _ e2]
      exact ho.block k hk' (by omega)

/-- What a round must keep: what lay ahead, and the iterator's own blocks. -/
def KeepQ (n₀ N : Nat) (X Y : World) : Prop := Below n₀ X Y ∧ ∀ k cs t, N ≤ k → k < N + 4 → X.heap[k]? = some (.cells cs t (0, 0)) → Y.heap[k]? = some (.cells cs t (0, 0))
theorem rd_keep {n₀ N g o : Nat} {x : Rn} {p : List Rn} {X Y : World} (h : RdSt n₀ g o x p X) (hk : KeepQ n₀ N X Y) (hg : N ≤ g ∧ g < N + 4) (ho : N ≤ o ∧ o < N + 4) : RdSt n₀ g o x p Y := by
  obtain ⟨h1, pa, cap, h2, hS, hc⟩ := h
  exact ⟨hk.2 _ _ _ hg.1 hg.2 h1, pa, cap, hk.2 _ _ _ ho.1 ho.2 h2, hS.below hk.1, hc⟩
def encQ (z : Rn × Rn) : Array Value := #[z.1.val, z.2.val]

/-- Between two rounds. -/
def PI (n₀ N Kt g1 o1 g2 o2 : Nat) (rs ss : List Rn) (J : List (Rn × Rn) → World → Prop) (gk : Nat) (wr : World) : Prop :=
  ∃ x1 p1 x2 p2 L1 L2 pre f, Hid (RdSt n₀ g1 o1 x1 p1 wr ∧ RdSt n₀ g2 o2 x2 p2 wr ∧ Rem x1 p1 L1 ∧ Rem x2 p2 L2 ∧ (∀ x ∈ L1, kind x ≠ 0) ∧ (∀ x ∈ L2, kind x ≠ 0) ∧
      ((expand L1).length + (expand L2).length = gk ∧ gk ≤ f ∧ f ≤ 100000000) ∧ pre ++ prs f L1 L2 = prs Kt rs ss ∧ J pre wr ∧ N + 4 ≤ wr.heap.size)

/-- Both readers, what was told, and that all four blocks are there. -/
def ST (n₀ N g1 o1 g2 o2 : Nat) (x1 : Rn) (p1 : List Rn) (x2 : Rn) (p2 : List Rn) (J : List (Rn × Rn) → World → Prop) (s : List (Rn × Rn)) (X : World) : Prop :=
  RdSt n₀ g1 o1 x1 p1 X ∧ RdSt n₀ g2 o2 x2 p2 X ∧ J s X ∧ N + 4 ≤ X.heap.size
variable {n₀ N g1 o1 g2 o2 : Nat} {x1 x2 : Rn} {p1 p2 : List Rn} {J : List (Rn × Rn) → World → Prop} {s : List (Rn × Rn)}
theorem ST.up {X Y : World} (h : ST n₀ N g1 o1 g2 o2 x1 p1 x2 p2 J s X) (hb : Below X.heap.size X Y) (hn : n₀ ≤ N) (hJ : MindsIn N (N + 4) J) : ST n₀ N g1 o1 g2 o2 x1 p1 x2 p2 J s Y :=
  ⟨rd_up h.1 hb (by have := h.2.2.2; omega), rd_up h.2.1 hb (by have := h.2.2.2; omega), hJ _ _ _ h.2.2.1 (.inl hb), Nat.le_trans h.2.2.2 hb.size⟩
theorem st_call1 (ha : Apart N g1 o1 g2 o2) (hn : n₀ ≤ N) (hJ : MindsIn N (N + 4) J) (hx : KR x1) {m : Nat} (hm : m ≤ lenR x1) (hl : lenR x1 ≤ 100000000) {z : Rn} {q : List Rn} (hz : readA x1 m p1 = (z, q)) (X : World) (h : ST n₀ N g1 o1 g2 o2 x1 p1 x2 p2 J s X) :
    Calls Try.prog 159 #[.int .i64 (m : Int), .pointer (some ⟨g1, 0, none⟩), .pointer (some ⟨o1, 0, none⟩)] X fun e W' => e = .returned (.agg #[.int .i64 z.keep, .string z.add, .int .i64 z.drop]) ∧ ST n₀ N g1 o1 g2 o2 z q x2 p2 J s W' := by
  have ha' := ha
  unfold Apart at ha'
  refine (reader1_any n₀ g1 o1 m x1 p1 X h.1 (by omega) (by omega) (by omega) hx hm hl).mono ?_
  rw [hz]
  rintro e W' ⟨rfl, hs, ho⟩
  exact ⟨rfl, hs, rd_other h.2.1 ho ha hn, minds_step hJ ha h.1 hs ho h.2.2.1, Nat.le_trans h.2.2.2 ho.size⟩
theorem st_call2 (ha : Apart N g1 o1 g2 o2) (hn : n₀ ≤ N) (hJ : MindsIn N (N + 4) J) (hx : KR x2) {m : Nat} (hm : m ≤ lenR x2) (hl : lenR x2 ≤ 100000000) {z : Rn} {q : List Rn} (hz : readA x2 m p2 = (z, q)) (X : World) (h : ST n₀ N g1 o1 g2 o2 x1 p1 x2 p2 J s X) :
    Calls Try.prog 159 #[.int .i64 (m : Int), .pointer (some ⟨g2, 0, none⟩), .pointer (some ⟨o2, 0, none⟩)] X fun e W' => e = .returned (.agg #[.int .i64 z.keep, .string z.add, .int .i64 z.drop]) ∧ ST n₀ N g1 o1 g2 o2 x1 p1 z q J s W' := by
  have h' : ST n₀ N g2 o2 g1 o1 x2 p2 x1 p1 J s X := ⟨h.2.1, h.1, h.2.2⟩
  refine (st_call1 ha.swap hn hJ hx hm hl hz X h').mono ?_
  rintro e W' ⟨rfl, hs⟩
  exact ⟨rfl, hs.2.1, hs.1, hs.2.2⟩

theorem st_start1 (ha : Apart N g1 o1 g2 o2) (hn : n₀ ≤ N) (hJ : MindsIn N (N + 4) J) {L : List Rn} (hx : Rem x1 p1 L) (hl : lenR x1 ≤ 100000000) (X : World) (h : ST n₀ N g1 o1 g2 o2 x1 p1 x2 p2 J s X) :
    Calls Try.prog 159 #[.int .i64 0, .pointer (some ⟨g1, 0, none⟩), .pointer (some ⟨o1, 0, none⟩)] X fun e W' => e = .returned (.agg #[.int .i64 (L.headD rn0).keep, .string (L.headD rn0).add, .int .i64 (L.headD rn0).drop]) ∧ ST n₀ N g1 o1 g2 o2 (L.headD rn0) L.tail x2 p2 J s W' := by
  have h := st_call1 ha hn hJ hx.kr (Nat.zero_le _) hl (rem_start hx) X h
  rw [show (((0 : Nat) : Int)) = 0 from rfl] at h
  exact h
theorem st_start2 (ha : Apart N g1 o1 g2 o2) (hn : n₀ ≤ N) (hJ : MindsIn N (N + 4) J) {L : List Rn} (hx : Rem x2 p2 L) (hl : lenR x2 ≤ 100000000) (X : World) (h : ST n₀ N g1 o1 g2 o2 x1 p1 x2 p2 J s X) :
    Calls Try.prog 159 #[.int .i64 0, .pointer (some ⟨g2, 0, none⟩), .pointer (some ⟨o2, 0, none⟩)] X fun e W' => e = .returned (.agg #[.int .i64 (L.headD rn0).keep, .string (L.headD rn0).add, .int .i64 (L.headD rn0).drop]) ∧ ST n₀ N g1 o1 g2 o2 x1 p1 (L.headD rn0) L.tail J s W' := by
  have h := st_call2 ha hn hJ hx.kr (Nat.zero_le _) hl (rem_start hx) X h
  rw [show (((0 : Nat) : Int)) = 0 from rfl] at h
  exact h

set_option maxRecDepth 100000 in
set_option maxHeartbeats 1000000 in
theorem pairs1 (n : Nat) (hn : 1 ≤ n) (l Ba Bb n₀ N cap cap' Kt : Nat) (a b : Option Addr) (rs ss : List Rn) (J Jx : List (Rn × Rn) → World → Prop) (W : World) (hN : W.heap.size = N) (hJ : MindsIn N (N + 4) J)
    (hr : ∀ x ∈ rs, kind x ≠ 0) (hs : ∀ x ∈ ss, kind x ≠ 0) (hKt : (expand rs).length + (expand ss).length ≤ Kt) (hKb : Kt ≤ 100000000)
    (hY : ∀ pre x W, J pre W → pre ++ [x] <+: prs Kt rs ss → N + 4 ≤ W.heap.size → YieldAt Fence.wide (n - 1) Try.prog l (encQ x) W fun e W' =>
      (e = .returned (.bool true) ∧ J (pre ++ [x]) W' ∧ KeepQ n₀ N W W') ∨ (e = .returned (.bool false) ∧ Jx (pre ++ [x]) W'))
    (hn₀ : n₀ ≤ N) (ha : W.heap[Ba]? = some (.cells #[.slice a rs.length cap] 77 (0, 0))) (hb : W.heap[Bb]? = some (.cells #[.slice b ss.length cap'] 77 (0, 0))) (hS : CameR n₀ W a rs) (hS' : CameR n₀ W b ss) (hc : rs.length ≤ cap) (hc' : ss.length ≤ cap') (h0 : J [] W) :
    CallsIn Fence.wide n Try.prog 140 #[.func (.yield l) #[] #[], .pointer (some ⟨Ba, 0, none⟩), .pointer (some ⟨Bb, 0, none⟩)] W fun e W' => (∃ v, e = .returned v) ∧
      ((∃ zs, zs = prs Kt rs ss ∧ J zs W') ∨ (∃ pre, pre <+: prs Kt rs ss ∧ Jx pre W')) := by
  have hro : Fence.wide.round = none := rfl
  have h159 : Fence.wide.fn 159 := trivial
  refine callsIn_of_wp Try.func140 rfl trivial ?_ rfl
  simp only [Try.ntmps140, List.size_toArray, List.length_cons, List.length_nil, Nat.reduceAdd, Nat.reduceSub, Array.replicate_succ, Array.replicate_zero, List.push_toArray, List.append_toArray, List.nil_append, List.cons_append]
  have HA := hide (And.intro ha hb)
  have HS := hide (And.intro hS hS')
  have HC := hide (And.intro hc hc')
  have HY := hide hY
  have HJ := hide hJ
  have HR := hide (And.intro hr hs)
  have HK := hide (And.intro hKt hKb)
  have HN := hide (And.intro hN hn₀)
  have H0 := hide h0
  clear ha hb hS hS' hc hc' hY hJ hr hs hKt hKb hN hn₀ h0
  gi_wp2_with fail
  refine reg0 (by rintro ⟨_, _, ⟨_, h⟩, _⟩; cases h) (by intro c a a' w h e; cases a; cases a'; dsimp only at e; subst e; exact h) Ba Bb rs.length cap ss.length cap' a b W HA.out.1 HA.out.2 fun g1 o1 g2 o2 V hM => ?_
  obtain ⟨m1, m2, m3, m4, m5, m6, m7⟩ := hM
  have hsz : W.drew.heap.size = N := HN.out.1
  rw [hsz] at m5 m6 m7
  have m5' : Below N W V := Below.trans (show Below N W W.drew from Joins.below_draws N W 1) m5
  have hap : Apart N g1 o1 g2 o2 := by unfold Apart; omega
  have HAP := hide hap
  have HI : Hid (PI n₀ N Kt g1 o1 g2 o2 rs ss J ((expand rs).length + (expand ss).length) V) := hide
    ⟨rn0, rs, rn0, ss, rs, ss, [], Kt, hide ⟨⟨m2, a, cap, m1, HS.out.1.below (m5'.mono HN.out.2), HC.out.1⟩, ⟨m4, b, cap', m3, HS.out.2.below (m5'.mono HN.out.2), HC.out.2⟩, .inr ⟨rfl, rfl⟩, .inr ⟨rfl, rfl⟩, HR.out.1, HR.out.2, ⟨rfl, HK.out.1, HK.out.2⟩, rfl, HJ.out _ _ _ H0.out (.inl (by rw [HN.out.1]; exact m5')), by omega⟩⟩
  clear m1 m2 m3 m4 m5 m6 m7 hsz m5' hap
  gi_wp2_with fail
  gi_loopg [] ((expand rs).length + (expand ss).length) (fun gk wr => PI n₀ N Kt g1 o1 g2 o2 rs ss J gk wr)
  case atStart => exact HI.out
  case round =>
    obtain ⟨x1, p1, x2, p2, L1, L2, pre, f, HP⟩ := hrel
    have ha := HAP.out
    obtain ⟨hr1, hr2, hm1, hm2, hk1, hk2, ⟨hg, hgf, hf⟩, hpre, hj, hsz⟩ := HP.out
    have l1 := head_len hk1
    have l2 := head_len hk2
    have HST : Hid (ST n₀ N g1 o1 g2 o2 x1 p1 x2 p2 J pre wr) := hide ⟨hr1, hr2, hj, hsz⟩
    have hb1 : lenR x1 ≤ 100000000 := by
      rcases hm1 with ⟨_, rfl⟩ | ⟨rfl, _⟩
      · have : lenR x1 ≤ (expand (x1 :: p1)).length := l1
        omega
      · rw [lenR_rn0]; omega
    have hb2 : lenR x2 ≤ 100000000 := by
      rcases hm2 with ⟨_, rfl⟩ | ⟨rfl, _⟩
      · have : lenR x2 ≤ (expand (x2 :: p2)).length := l2
        omega
      · rw [lenR_rn0]; omega
    have HC1 := hide fun X (hX : ST n₀ N g1 o1 g2 o2 x1 p1 x2 p2 J pre X) => st_start1 ha HN.out.2 HJ.out hm1 hb1 X hX
    have HC2 := hide fun X (hX : ST n₀ N g1 o1 g2 o2 (L1.headD rn0) L1.tail x2 p2 J pre X) => st_start2 ha HN.out.2 HJ.out hm2 hb2 X hX
    have hkA := (rem_head hk1).kr
    have hkB := (rem_head hk2).kr
    have HM := hide (And.intro hk1 (And.intro hk2 (And.intro ha (And.intro hg (And.intro hgf (And.intro hf hpre))))))
    have HL := hide (And.intro (Nat.le_trans l1 (show _ ≤ 100000000 by omega)) (Nat.le_trans l2 (show _ ≤ 100000000 by omega)))
    have HKR := hide (And.intro hkA hkB)
    have HRG := hide (And.intro (fun {m : Nat} => rem_go hk1 (m := m)) (fun {m : Nat} => rem_go hk2 (m := m)))
    clear HP ha hr1 hr2 hm1 hm2 hk1 hk2 hg hgf hf hpre hj hsz l1 l2 hb1 hb2 hkA hkB
    generalize hA : L1.headD rn0 = A at *
    generalize hT1 : L1.tail = T1 at *
    generalize hB : L2.headD rn0 = B at *
    generalize hT2 : L2.tail = T2 at *
    have HE := hide (And.intro hA (And.intro hT1 (And.intro hB hT2)))
    clear hA hT1 hB hT2
    gi_wp2_with (gi_at_call 159; with_reducible refine (callsIn_wide.2 (HC1.out wr HST.out)).mono ?_; rintro e V1 ⟨rfl, h1⟩; have HST1 := hide h1; clear h1)
    gi_wp2_with (gi_at_call 159; with_reducible refine (callsIn_wide.2 (HC2.out V1 HST1.out)).mono ?_; rintro e V2 ⟨rfl, h2⟩; have HST2 := hide h2; clear h2)
    have hXY := And.intro ((Below.heap_alloc (V2.alloc (.cells #[.int .i64 A.keep, .string A.add, .int .i64 A.drop] 91)) (.cells #[.int .i64 B.keep, .string B.add, .int .i64 B.drop] 91) V2.heap.size (by simp)).trans (World.alloc_heap_new V2 (.cells #[.int .i64 A.keep, .string A.add, .int .i64 A.drop] 91))) (World.alloc_heap_new (V2.alloc (.cells #[.int .i64 A.keep, .string A.add, .int .i64 A.drop] 91)) (.cells #[.int .i64 B.keep, .string B.add, .int .i64 B.drop] 91))
    rw [World.size_alloc] at hXY
    have hb3 := Joins.below_alloc2 V2 (.cells #[.int .i64 A.keep, .string A.add, .int .i64 A.drop] 91) (.cells #[.int .i64 B.keep, .string B.add, .int .i64 B.drop] 91)
    refine reg2 (by rintro ⟨_, _, ⟨_, h⟩, _⟩; cases h) (by intro c a a' w h e; cases a; cases a'; dsimp only at e; subst e; exact h) V2.heap.size (V2.heap.size + 1) A B _ hXY HKR.out.1 HKR.out.2 HL.out.1 HL.out.2 fun V4 hV4 => ?_
    have HXY := hide (XY.up hXY hV4)
    have HST4 := hide ((HST2.out.up hb3 HN.out.2 HJ.out).up hV4 HN.out.2 HJ.out)
    clear hXY hb3 hV4 HST2
    gi_step
    gi_step
    gi_step
    refine swi V2.heap.size (V2.heap.size + 1) A B V4 HXY.out fun s22 s23 s24 s25 s26 s27 s28 s29 s30 s31 s32 s33 => ?_
    have hle := stepM_le A B
    obtain ⟨m, k, hmk⟩ : ∃ m k, stepM A B = (m, k) := ⟨_, _, rfl⟩
    rw [hmk] at hle ⊢
    have HLE := hide hle
    have HMK := hide hmk
    clear hle hmk
    dsimp only
    gi_wp2_with fail
    by_cases hz : m = 0 ∧ k = 0
    · obtain ⟨rfl, rfl⟩ := hz
      rw [show (((0 : Nat) : Int)) = (0 : Int) from rfl]
      refine reg9none (by rintro ⟨_, _, ⟨_, h⟩, _⟩; cases h) (by intro c a a' w h e; cases a; cases a'; dsimp only at e; subst e; exact h) V2.heap.size (V2.heap.size + 1) V4 ?_
      gi_wp2_with fail
      refine bodyPost_ret (results_none rfl _ _ _) rfl ?_
      obtain ⟨hk1, hk2, ha, hg, hgf, hf, hpre⟩ := HM.out
      obtain ⟨eA, eT1, eB, eT2⟩ := HE.out
      have hnone := prs_none hk1 hk2 (by rw [eA, eB, HMK.out]; exact ⟨rfl, rfl⟩) f
      rw [hnone, List.append_nil] at hpre
      exact ⟨⟨_, rfl⟩, .inl ⟨pre, hpre, HJ.out _ _ _ HST4.out.2.2.1 (.inl (Joins.below_draws _ V4 1))⟩⟩
    · refine reg9some (by rintro ⟨_, _, ⟨_, h⟩, _⟩; cases h) (by intro c a a' w h e; cases a; cases a'; dsimp only at e; subst e; exact h) V2.heap.size (V2.heap.size + 1) l m k A B V4 HXY.out HKR.out.1 HKR.out.2 HL.out.1 HL.out.2 HLE.out.1 HLE.out.2 hz fun s34 s35 s36 s37 s38 s39 V5 hV5 => ?_
      have hne := hide hz
      clear hz
      have HST5 := hide (HST4.out.up hV5 HN.out.2 HJ.out)
      clear hV5 HST4 HXY
      obtain ⟨hk1, hk2, ha, hg, hgf, hf, hpre⟩ := HM.out
      obtain ⟨eA, eT1, eB, eT2⟩ := HE.out
      have hlen : m + k ≤ (expand L1).length + (expand L2).length := by
        have h1 := head_len hk1
        have h2 := head_len hk2
        rw [eA] at h1
        rw [eB] at h2
        have := HLE.out
        omega
      obtain ⟨f', rfl⟩ : ∃ f', f = f' + 1 := ⟨f - 1, by have := hne.out; omega⟩
      have hsome := prs_some hk1 hk2 (m := m) (n := k) (by rw [eA, eB]; exact HMK.out) hne.out f'
      rw [eA, eB] at hsome
      rw [hsome] at hpre
      have hpx : pre ++ [(pcR A 0 m, pcR B 0 k)] <+: prs Kt rs ss := ⟨prs f' (rst L1 m) (rst L2 k), by rw [← hpre]; simp⟩
      obtain ⟨fn, tmps, assign, body, hy, hR⟩ := HY.out pre (pcR A 0 m, pcR B 0 k) V5 HST5.out.2.2.1 hpx HST5.out.2.2.2
      have HPX := hide hpx
      have HPRE := hide hpre
      have HLEN := hide (And.intro hlen (And.intro hg (And.intro hgf hf)))
      obtain ⟨x1', p1', hz1⟩ : ∃ x p, readA A m T1 = (x, p) := ⟨_, _, rfl⟩
      obtain ⟨x2', p2', hz2⟩ : ∃ x p, readA B k T2 = (x, p) := ⟨_, _, rfl⟩
      have HC3 := hide fun X (hX : ST n₀ N g1 o1 g2 o2 A T1 B T2 J (pre ++ [(pcR A 0 m, pcR B 0 k)]) X) => st_call1 ha HN.out.2 HJ.out HKR.out.1 HLE.out.1 HL.out.1 hz1 X hX
      have HC4 := hide fun X (hX : ST n₀ N g1 o1 g2 o2 x1' p1' B T2 J (pre ++ [(pcR A 0 m, pcR B 0 k)]) X) => st_call2 ha HN.out.2 HJ.out HKR.out.2 HLE.out.2 HL.out.2 hz2 X hX
      have HNEW := hide (And.intro (show Rem x1' p1' (rst L1 m) by have h := HRG.out.1 HLE.out.1; rw [hz1] at h; exact h) (And.intro (show Rem x2' p2' (rst L2 k) by have h := HRG.out.2 HLE.out.2; rw [hz2] at h; exact h) (And.intro (rst_kinds hk1 (m := m) (by rw [eA]; exact HLE.out.1)) (And.intro (rst_kinds hk2 (m := k) (by rw [eB]; exact HLE.out.2)) (And.intro (rst_len hk1 (m := m) (by rw [eA]; exact HLE.out.1)) (rst_len hk2 (m := k) (by rw [eB]; exact HLE.out.2)))))))
      clear hz1 hz2
      clear hk1 hk2 ha hg hgf hf hpre eA eT1 eB eT2 hlen hsome hpx
      unfold encQ Rn.val at hy
      dsimp only at hy
      refine anyIn_next (i := 14) (by kernel_rfl) rfl (by rfl) ?_
      go_simp
      refine hR.mono ?_
      rintro e W3 (⟨rfl, hJ3, hk3⟩ | ⟨rfl, hJx⟩)
      · have hst := HST5.out
        have HST6 : Hid (ST n₀ N g1 o1 g2 o2 A T1 B T2 J (pre ++ [(pcR A 0 m, pcR B 0 k)]) W3) := hide (by
          have ha := HAP.out
          exact ⟨rd_keep hst.1 hk3 ha.1 ha.2.1, rd_keep hst.2.1 hk3 ha.2.2.1 ha.2.2.2.1, hJ3, Nat.le_trans hst.2.2.2 hk3.1.size⟩)
        clear hJ3 hk3 hst hR hy
        dsimp only
        refine anyIn_next (i := 15) (by kernel_rfl) rfl (by rfl) ?_
        go_simp
        refine anyIn_next (i := 16) (by kernel_rfl) rfl (by rfl) ?_
        go_simp
        refine wpAnyIn_done (by kernel_rfl) ?_ _
        gi_wp2_with (gi_at_call 159; with_reducible refine (callsIn_wide.2 (HC3.out W3 HST6.out)).mono ?_; rintro e V7 ⟨rfl, h7⟩; have HST7 := hide h7; clear h7)
        refine (callsIn_wide.2 (HC4.out V7 HST7.out)).mono ?_
        rintro e V8 ⟨rfl, h8⟩
        have HST8 := hide h8
        clear h8
        gi_wp2_with fail
        gi_roundg ((expand (rst L1 m)).length + (expand (rst L2 k)).length)
        case rel =>
          obtain ⟨n1, n2, n3, n4, n5, n6⟩ := HNEW.out
          obtain ⟨q1, q2, q3, q4⟩ := HLEN.out
          exact ⟨x1', p1', x2', p2', rst L1 m, rst L2 k, pre ++ [(pcR A 0 m, pcR B 0 k)], f', hide ⟨HST8.out.1, HST8.out.2.1, n1, n2, n3, n4, ⟨rfl, by have := hne.out; omega, by omega⟩, by rw [← HPRE.out]; simp, HST8.out.2.2.1, HST8.out.2.2.2⟩⟩
        case measure =>
          obtain ⟨n1, n2, n3, n4, n5, n6⟩ := HNEW.out
          obtain ⟨q1, q2, q3, q4⟩ := HLEN.out
          have := hne.out
          omega
      · clear hR hy
        have HX := hide hJx
        clear hJx
        dsimp only
        refine anyIn_next (i := 15) (by kernel_rfl) rfl (by rfl) ?_
        go_simp
        refine anyIn_next (i := 16) (by kernel_rfl) rfl (by rfl) ?_
        go_simp
        refine wpAnyIn_done (by kernel_rfl) ?_ _
        gi_wp2_with fail
        refine bodyPost_ret (results_none rfl _ _ _) rfl ?_
        exact ⟨⟨_, rfl⟩, .inr ⟨_, HPX.out, HX.out⟩⟩

end Go.Proofs.Ytpmijaplkbmbiaa.E
