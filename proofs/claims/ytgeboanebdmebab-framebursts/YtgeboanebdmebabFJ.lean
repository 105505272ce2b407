/- frame: what the program reads of a frame, step by step. -/
import Derived.Test.YtgeboanebdmebabFI
namespace Go.Proofs.Ytgeboanebdmebab.F
open Go.Proofs.Ytgeboanebdmebab Go.RowKit Go.By
set_option linter.unusedVariables false
set_option linter.unusedSimpArgs false
set_option maxRecDepth 20000
attribute [local go_sem ↓] Go.wp_at_zero Go.wp_at_succ

def zeroV : Value := .agg #[.int .i64 0, .int .i64 0, .int .i64 0, .string ⟨#[]⟩]
/-- A sealed body, opened. -/
def OpenOut (l : List Nat) (m : Nat) (w : World) (e : Ending) (W' : World) : Prop :=
  Below w.heap.size w W' ∧ ((Crc.Good l m ∧ ∃ u cap, e = .returned (.tuple #[.slice u m cap, .int .i64 0]) ∧ Owns W' w.heap.size (.slice u m cap) (l.take m)) ∨ (¬ Crc.Good l m ∧ e = .returned (.tuple #[.slice none 0 0, .int .i64 12])))
theorem opened_any (a : Option Addr) (l : List Nat) (m cap : Nat) (w : World) (hL : Came w.heap.size w a l) (hs : l.length = m + 4) (hcap : m + 4 ≤ cap) (hmx : cap ≤ maxLen) (hm : l.length ≤ 100000) :
    Calls Try.prog 18 #[.slice a (m + 4) cap] w fun e W' => OpenOut l m w e W' := by
  have HC := hide (C.open_long a l m cap w hL hs hcap hmx hm)
  have HT : Hid ((l.take m).length = m) := hide (by rw [List.length_take]; omega)
  clear hL hs hcap hmx hm
  go_enter Try.func18, Try.ntmps18
  go_wp2_with fail
  refine HC.out.mono ?_
  rintro e W1 ⟨hb, ⟨hg, v, rfl, ho⟩ | ⟨hg, rfl⟩⟩
  · obtain ⟨u, c, rfl, _⟩ := ho.form
    have HO := hide (And.intro hg (And.intro ho hb))
    have ht := HT.out
    clear hg ho hb
    go_wp2
    go_ret2
    refine ⟨HO.out.2.2, .inl ⟨HO.out.1, u, c, ?_, ?_⟩⟩
    · rw [← HT.out]; simp
    · have := HO.out.2.1; rw [HT.out] at this; exact this
  · have HO := hide (And.intro hg hb)
    clear hg hb
    go_wp2
    go_ret2
    exact ⟨HO.out.2, .inr ⟨HO.out.1, rfl⟩⟩

theorem then73_bad (z : Int) (hz : z ≠ 0) (w : World) : Calls Try.prog 17 #[.slice none 0 0, .int .i64 z, .func (.func 18) #[] #[]] w fun e W' => e = .returned (.tuple #[.slice none 0 0, .int .i64 z]) ∧ Below w.heap.size w W' := by
  have q : (z != 0) = true := by simp [hz]
  go_enter Try.func17, Try.ntmps17
  go_wp2
  go_ret2
  exact ⟨rfl, Below.refl _ _⟩
theorem then73_good (a : Option Addr) (l : List Nat) (m cap : Nat) (w : World) (hL : Came w.heap.size w a l) (hs : l.length = m + 4) (hcap : m + 4 ≤ cap) (hmx : cap ≤ maxLen) (hm : l.length ≤ 100000) :
    Calls Try.prog 17 #[.slice a (m + 4) cap, .int .i64 0, .func (.func 18) #[] #[]] w fun e W' => OpenOut l m w e W' := by
  have HC := hide (opened_any a l m cap w hL hs hcap hmx hm)
  clear hL hs hcap hmx hm
  go_enter Try.func17, Try.ntmps17
  go_wp2_with fail
  refine HC.out.mono ?_
  rintro e W1 ⟨hb, ⟨hg, u, c, rfl, ho⟩ | ⟨hg, rfl⟩⟩
  · have HO := hide (And.intro hg (And.intro ho hb))
    clear hg ho hb
    go_wp2
    go_ret2
    exact ⟨HO.out.2.2, .inl ⟨HO.out.1, u, c, rfl, HO.out.2.1⟩⟩
  · have HO := hide (And.intro hg hb)
    clear hg hb
    go_wp2
    go_ret2
    exact ⟨HO.out.2, .inr ⟨HO.out.1, rfl⟩⟩

theorem z42_new (w : World) : Below w.heap.size w (w.alloc (.cells #[.int .i64 0, .int .i64 0, .int .i64 0, .string ⟨#[]⟩] 23)) ∧ (w.alloc (.cells #[.int .i64 0, .int .i64 0, .int .i64 0, .string ⟨#[]⟩] 23)).heap[w.heap.size]? = some (.cells #[.int .i64 0, .int .i64 0, .int .i64 0, .string ⟨#[]⟩] 23 (0, 0)) := ⟨(Below.refl _ w).alloc (Nat.le_refl _) _, World.alloc_heap_new w _⟩
theorem kept {w W W' : World} {o : Obj} (h : Below w.heap.size w W ∧ W.heap[w.heap.size]? = some o) (hb : Below W.heap.size W W') : Below w.heap.size w W' ∧ W'.heap[w.heap.size]? = some o :=
  ⟨h.1.trans (hb.mono h.1.size), (hb.block _ (lt_of_heap h.2)).trans h.2⟩

theorem then75_bad (z : Int) (hz : z ≠ 0) (w : World) : Calls Try.prog 19 #[.slice none 0 0, .int .i64 z, .func (.func 20) #[] #[]] w fun e W' => e = .returned (.tuple #[.agg #[.int .i64 0, .int .i64 0, .int .i64 0, .string ⟨#[]⟩], .int .i64 z]) ∧ Below w.heap.size w W' := by
  have q : (z != 0) = true := by simp [hz]
  have HB := hide (z42_new w)
  go_enter Try.func19, Try.ntmps19
  go_wp2
  exact bodyPost_ret (results_ct rfl _ _ w.heap.size 23 _ (0, 0) _ rfl HB.out.2 Try.underlying23 rfl (by kernel_rfl)) rfl ⟨rfl, HB.out.1⟩
theorem then75_good (B : Nat) (l : List Nat) (u : Option Addr) (m cap : Nat) (w : World) (hn : l.length = m) (ho : Owns w B (.slice u m cap) l) (hm : l.length ≤ 20000) :
    Calls Try.prog 19 #[.slice u m cap, .int .i64 0, .func (.func 20) #[] #[]] w fun e W' => e = .returned (.tuple #[.agg #[.int .i64 (parseP l).1.1, .int .i64 (parseP l).1.2.1, .int .i64 (parseP l).1.2.2.1, .string (parseP l).1.2.2.2], .int .i64 (errP (parseP l).2)]) ∧ Below w.heap.size w W' := by
  subst hn
  have HB := hide (z42_new w)
  have HC := hide (packet_any B l u cap _ (ho.alloc (.cells #[.int .i64 0, .int .i64 0, .int .i64 0, .string ⟨#[]⟩] 23)) hm)
  generalize parseP l = R at *
  obtain ⟨⟨p1, p2, p3, p4⟩, p5⟩ := R
  clear ho hm
  go_enter Try.func19, Try.ntmps19
  go_wp2_with fail
  refine HC.out.mono ?_
  rintro e W1 ⟨rfl, hb⟩
  have HB1 := hide (kept HB.out hb)
  obtain ⟨c0, c1, c2, c3⟩ := pk_cells HB1.out.2
  obtain ⟨f0, f1, f2, f3⟩ := pk_free HB1.out.2
  clear hb
  go_wp2
  exact bodyPost_ret (results_ct rfl _ _ w.heap.size 23 _ (0, 0) _ rfl (pk_set HB1.out.2) Try.underlying23 rfl (by kernel_rfl)) rfl ⟨rfl, (((HB1.out.1.setCell (Nat.le_refl _) _).setCell (Nat.le_refl _) _).setCell (Nat.le_refl _) _).setCell (Nat.le_refl _) _⟩

/-- The bytes' own box, and the size's. -/
def BX (W : World) (b s : Nat) (a : Option Addr) (n cap : Nat) (z : Int) : Prop := W.heap[b]? = some (.cells #[.slice a n cap] 27 (0, 0)) ∧ W.heap[s]? = some (.cells #[.int .i64 z] 3 (0, 0)) ∧ b ≠ s
theorem BX.below {W W' : World} {b s : Nat} {a : Option Addr} {n cap : Nat} {z : Int} (h : BX W b s a n cap z) (hb : Below W.heap.size W W') : BX W' b s a n cap z :=
  ⟨(hb.block _ (lt_of_heap h.1)).trans h.1, (hb.block _ (lt_of_heap h.2.1)).trans h.2.1, h.2.2⟩
theorem BX.set {W : World} {b s : Nat} {a : Option Addr} {n cap : Nat} {z : Int} (h : BX W b s a n cap z) (z' : Int) : BX (W.setCell ⟨s, 0, none⟩ (.int .i64 z')) b s a n cap z' := by
  have h2 := Joins.block_setCell (i := 0) h.2.1 (.int .i64 z')
  exact ⟨(Below.heap_setCell W _ _ b (fun e => h.2.2 e)).trans h.1, h2, h.2.2⟩

theorem wrapW (k n : Nat) (hk : k ≤ 9) (hn : n ≤ 65576) : (k : Int) + n + 4 = ((k + n + 4 : Nat) : Int) := by omega

set_option maxHeartbeats 2000000 in
theorem get1_short (b s : Nat) (a : Option Addr) (n cap k m : Nat) (w : World) (h : BX w b s a n cap 0) (hk : k ≤ 9) (hm : m ≤ 65576) (hlt : n < k + m + 4) :
    Calls Try.prog 16 #[.agg #[.int .i64 (k : Int), .int .i64 (m : Int)], .pointer (some ⟨b, 0, none⟩), .pointer (some ⟨s, 0, none⟩)] w fun e W' => e = .returned (.tuple #[.slice none 0 0, .int .i64 10]) ∧ Below w.heap.size w W' := by
  have hb : Below w.heap.size w (w.alloc (.cells #[.int .i64 (k : Int), .int .i64 (m : Int)] 42)) := (Below.refl _ w).alloc (Nat.le_refl _) _
  have h1 := h.below hb
  have hc : (w.alloc (.cells #[.int .i64 (k : Int), .int .i64 (m : Int)] 42)).cell? ⟨b, 0, none⟩ = some (.slice a n cap) := by rw [Joins.cell_of_block h1.1]; rfl
  have hlt' : (n : Int) < (k : Int) + m + 4 := by omega
  have HB := hide hb
  clear h h1 hb
  go_enter Try.func16, Try.ntmps16
  go_wp2
  go_ret2
  exact ⟨rfl, HB.out⟩
set_option maxHeartbeats 2000000 in
theorem get1_long (b s : Nat) (a : Option Addr) (n cap k m : Nat) (w : World) (h : BX w b s a n cap 0) (hk : k ≤ 9) (hm : m ≤ 65576) (hlt : k + m + 4 ≤ n) (hcap : n ≤ cap) :
    Calls Try.prog 16 #[.agg #[.int .i64 (k : Int), .int .i64 (m : Int)], .pointer (some ⟨b, 0, none⟩), .pointer (some ⟨s, 0, none⟩)] w fun e W' => e = .returned (.tuple #[.slice (V.from_ a cap k) (m + 4) (cap - k), .int .i64 0]) ∧ BX W' b s a n cap ((k + m + 4 : Nat) : Int) ∧ w.grownBy W' (some s) := by
  have hb : Below w.heap.size w (w.alloc (.cells #[.int .i64 (k : Int), .int .i64 (m : Int)] 42)) := (Below.refl _ w).alloc (Nat.le_refl _) _
  have h1 := h.below hb
  have hc : (w.alloc (.cells #[.int .i64 (k : Int), .int .i64 (m : Int)] 42)).cell? ⟨b, 0, none⟩ = some (.slice a n cap) := by rw [Joins.cell_of_block h1.1]; rfl
  have hc2 : (w.alloc (.cells #[.int .i64 (k : Int), .int .i64 (m : Int)] 42)).cell? ⟨s, 0, none⟩ = some (.int .i64 0) := by rw [Joins.cell_of_block h1.2.1]; rfl
  have hf := Joins.unfrozen_of_block h1.2.1 0
  have hlt' : ¬ (n : Int) < (k : Int) + m + 4 := by omega
  have hsl := V.slice_lohi a n cap k ((k : Int) + m + 4) (m + 4) (by omega) (by omega)
  have hslt := lt_of_heap h.2.1
  have h2 : BX ((w.setCell ⟨s, 0, none⟩ (.int .i64 ((k : Int) + m + 4))).alloc (.cells #[.int .i64 (k : Int), .int .i64 (m : Int)] 42)) b s a n cap ((k : Int) + m + 4) := (h.set _).below ((Below.refl _ _).alloc (Nat.le_refl _) _)
  have hc3 : ((w.setCell ⟨s, 0, none⟩ (.int .i64 ((k : Int) + m + 4))).alloc (.cells #[.int .i64 (k : Int), .int .i64 (m : Int)] 42)).cell? ⟨b, 0, none⟩ = some (.slice a n cap) := by rw [Joins.cell_of_block h2.1]; rfl
  have HG : Hid (w.grownBy ((w.setCell ⟨s, 0, none⟩ (.int .i64 ((k : Int) + m + 4))).alloc (.cells #[.int .i64 (k : Int), .int .i64 (m : Int)] 42)) (some s)) := hide (by
    have hb2 : Below (w.setCell ⟨s, 0, none⟩ (.int .i64 ((k : Int) + m + 4))).heap.size (w.setCell ⟨s, 0, none⟩ (.int .i64 ((k : Int) + m + 4))) ((w.setCell ⟨s, 0, none⟩ (.int .i64 ((k : Int) + m + 4))).alloc (.cells #[.int .i64 (k : Int), .int .i64 (m : Int)] 42)) := (Below.refl _ _).alloc (Nat.le_refl _) _
    refine ⟨hb2.os, hb2.tape, hb2.output, by simp, fun i hi hne => ?_⟩
    rw [hb2.block i (by simpa using hi)]
    exact Below.heap_setCell w _ _ i (fun e => hne (by rw [e])))
  have HX := hide h2
  clear h h1 hb h2
  go_enter Try.func16, Try.ntmps16
  go_wp2
  go_ret2
  exact ⟨rfl, HX.out, HG.out⟩

def F72 (b s : Nat) : Value := .func (.func 16) #[] #[.pointer (some ⟨b, 0, none⟩), .pointer (some ⟨s, 0, none⟩)]
theorem then71_bad (b s : Nat) (x y : Nat) (z : Int) (hz : z ≠ 0) (w : World) : Calls Try.prog 15 #[.agg #[.int .i64 (x : Int), .int .i64 (y : Int)], .int .i64 z, .func (.func 16) #[] #[.pointer (some ⟨b, 0, none⟩), .pointer (some ⟨s, 0, none⟩)]] w fun e W' => e = .returned (.tuple #[.slice none 0 0, .int .i64 z]) ∧ Below w.heap.size w W' := by
  have q : (z != 0) = true := by simp [hz]
  have HB : Hid (Below w.heap.size w (w.alloc (.cells #[.int .i64 (x : Int), .int .i64 (y : Int)] 42))) := hide ((Below.refl _ w).alloc (Nat.le_refl _) _)
  go_enter Try.func15, Try.ntmps15
  go_wp2
  go_ret2
  exact ⟨rfl, HB.out⟩
theorem then71_short (b s : Nat) (a : Option Addr) (n cap k m : Nat) (w : World) (h : BX w b s a n cap 0) (hk : k ≤ 9) (hm : m ≤ 65576) (hlt : n < k + m + 4) :
    Calls Try.prog 15 #[.agg #[.int .i64 (k : Int), .int .i64 (m : Int)], .int .i64 0, .func (.func 16) #[] #[.pointer (some ⟨b, 0, none⟩), .pointer (some ⟨s, 0, none⟩)]] w fun e W' => e = .returned (.tuple #[.slice none 0 0, .int .i64 10]) ∧ Below w.heap.size w W' := by
  have hb : Below w.heap.size w (w.alloc (.cells #[.int .i64 (k : Int), .int .i64 (m : Int)] 42)) := (Below.refl _ w).alloc (Nat.le_refl _) _
  have HC := hide (get1_short b s a n cap k m _ (h.below hb) hk hm hlt)
  have HB := hide hb
  clear h hb hk hm hlt
  go_enter Try.func15, Try.ntmps15
  go_wp2_with (go_at_call 16; refine HC.out.mono ?_; rintro e W1 ⟨rfl, hb⟩; have HB1 := hide (HB.out.trans (hb.mono HB.out.size)); clear hb)
  go_ret2
  exact ⟨rfl, HB1.out⟩
theorem then71_long (b s : Nat) (a : Option Addr) (n cap k m : Nat) (w : World) (h : BX w b s a n cap 0) (hk : k ≤ 9) (hm : m ≤ 65576) (hlt : k + m + 4 ≤ n) (hcap : n ≤ cap) :
    Calls Try.prog 15 #[.agg #[.int .i64 (k : Int), .int .i64 (m : Int)], .int .i64 0, .func (.func 16) #[] #[.pointer (some ⟨b, 0, none⟩), .pointer (some ⟨s, 0, none⟩)]] w fun e W' => e = .returned (.tuple #[.slice (V.from_ a cap k) (m + 4) (cap - k), .int .i64 0]) ∧ BX W' b s a n cap ((k + m + 4 : Nat) : Int) ∧ w.grownBy W' (some s) := by
  have hb : Below w.heap.size w (w.alloc (.cells #[.int .i64 (k : Int), .int .i64 (m : Int)] 42)) := (Below.refl _ w).alloc (Nat.le_refl _) _
  have HC := hide (get1_long b s a n cap k m _ (h.below hb) hk hm hlt hcap)
  have HB := hide hb
  clear h hb hk hm hlt hcap
  generalize V.from_ a cap k = fa at *
  generalize cap - k = fc at *
  generalize hM : m + 4 = M at *
  have HM := hide hM
  clear hM
  generalize hW : k + m + 4 = Wh at *
  have HW := hide hW
  clear hW
  go_enter Try.func15, Try.ntmps15
  go_wp2_with (go_at_call 16; refine HC.out.mono ?_; rintro e W1 ⟨rfl, hx, hg⟩; have HB1 := hide (And.intro hx hg); clear hx hg)
  go_ret2
  refine ⟨rfl, HB1.out.1, HB.out.os ▸ HB1.out.2.os, HB.out.tape ▸ HB1.out.2.tape, HB.out.output ▸ HB1.out.2.output, Nat.le_trans HB.out.size HB1.out.2.size, fun i hi hne => ?_⟩
  exact (HB1.out.2.block i (Nat.lt_of_lt_of_le hi HB.out.size) hne).trans (HB.out.block i hi)
end Go.Proofs.Ytgeboanebdmebab.F
