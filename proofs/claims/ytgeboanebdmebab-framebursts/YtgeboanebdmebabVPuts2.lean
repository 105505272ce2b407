/- Numbers and texts that are put behind bytes: the program's calls, whole. -/
import Derived.Test.YtgeboanebdmebabVPuts
import Derived.Test.YtgeboanebdmebabStrs
namespace Go.Proofs.Ytgeboanebdmebab.V
open Go.RowKit Go.By
set_option linter.unusedVariables false

set_option maxHeartbeats 1000000 in
set_option maxRecDepth 20000 in
theorem text_any (s : ByteArray) (h base : Nat) (l : List Nat) (w : World) (hs : St w base h l) (hb : base ≤ w.heap.size) (hl : l.length ≤ 20000) (hss : s.size ≤ 10000) :
    Calls Try.prog 24 #[.pointer (some ⟨h, 0, none⟩), .string s] w fun e w' => e = .returned (.tuple #[]) ∧ St w' base h (l ++ Vary.putT (nums s)) ∧ Below base w w' := by
  have HS := hide hs
  clear hs
  go_enter Try.func24, Try.ntmps24
  go_wp2_with fail
  refine (num_any s.size h base l w HS.out hb (by unfold Vary.maxNum; omega) hl).mono ?_
  rintro e wr ⟨rfl, hst, hbel⟩
  obtain ⟨v, hheap, hbh, hown⟩ := hst
  have hlen := Vary.put_length s.size
  have hpre : (l ++ Vary.put s.size).length ≤ 20010 := by simp; omega
  have hfin : l ++ Vary.putT (nums s) = (l ++ Vary.put s.size) ++ nums s := by unfold Vary.putT; rw [nums_length, List.append_assoc]
  generalize l ++ Vary.put s.size = pre at *
  have hne := own_ne hown hheap
  obtain ⟨av, cv, rfl, -⟩ := hown.form
  have hc : wr.cell? ⟨h, 0, none⟩ = some (.slice av pre.length cv) := by rw [Joins.cell_of_block hheap]; rfl
  have hf : wr.frozen? ⟨h, 0, none⟩ = false := Joins.unfrozen_of_block hheap 0
  have hlth : h < wr.heap.size := World.block_lt_of_cell? wr _ hc
  have hbs : base ≤ wr.heap.size := Nat.le_trans hb hbel.size
  have HH := hide hheap
  have HO := hide hown
  have HB := hide hbel
  have HNE := hide hne
  have HF := hide hfin
  clear hheap hown hbel hne hlen hfin
  go_wp2_with (at_builtin; refine wpList_append_text rfl _ _ rfl Try.underlying27 Try.underlying9 Try.info5 base _ pre rfl HO.out s rfl (by omega) hbs ?_)
  intro v' w1 hown1 hgrow
  obtain ⟨av', cv', rfl, -⟩ := hown1.form
  have hh1 : w1.heap[h]? = some (.cells #[.slice av pre.length cv] 67 (0, 0)) := by
    rw [hgrow.block h hlth HNE.out]; exact HH.out
  have hb1 : Below base w w1 := Below.app HB.out hgrow HO.out (Nat.le_refl _) hbs
  have hc1 : w1.cell? ⟨h, 0, none⟩ = some (.slice av pre.length cv) := by rw [Joins.cell_of_block hh1]; rfl
  have hf1 : w1.frozen? ⟨h, 0, none⟩ = false := Joins.unfrozen_of_block hh1 0
  generalize hN : (pre ++ nums s).length = N at *
  have HO1 := hide hown1
  have HH1 := hide hh1
  have HB1 := hide hb1
  clear hown1 hh1 hb1 hgrow hN
  go_wp2
  go_end0
  refine ⟨rfl, ⟨_, Joins.block_setCell HH1.out _, hbh, ?_⟩, HB1.out.setCell hbh _⟩
  rw [HF.out]
  exact Owns.aside HO1.out HH1.out

set_option maxHeartbeats 1000000 in
set_option maxRecDepth 20000 in
theorem behindI_any (f : Nat) (z : Int) (more : List Nat) (a : Option Addr) (l : List Nat) (cap : Nat) (w : World) (hL : Came w.heap.size w a l) (hnil : a = none → l = [] ∧ cap = 0) (hm : l.length ≤ 20000)
    (hf : f = 22 ∨ f = 22)
    (hput : ∀ (h base : Nat) (w : World), St w base h l → base ≤ w.heap.size → Calls Try.prog f #[.pointer (some ⟨h, 0, none⟩), .int .i64 z] w fun e w' => e = .returned (.tuple #[]) ∧ St w' base h (l ++ more) ∧ Below base w w') :
    Calls Try.prog 21 #[.slice a l.length cap, .func (.func f) #[] #[], .int .i64 z] w fun e w' => ∃ v, e = .returned v ∧ Owns w' w.heap.size v (l ++ more) ∧ Below w.heap.size w w' := by
  have HL := hide hL
  have HN := hide hnil
  have HP := hide hput
  clear hL hnil hput
  rcases hf with rfl | rfl
  all_goals
    go_enter Try.func21, Try.ntmps21
    go_wp2_with fail
    refine (clone_any a l l.length cap w rfl HL.out HN.out hm).mono ?_
    rintro e w1 ⟨v, rfl, hown, hbel⟩
    obtain ⟨av, cv, rfl, -⟩ := hown.form
    have HO := hide hown
    have HB := hide hbel
    clear hown hbel
    go_wp2_with fail
    refine (HP.out w1.heap.size w.heap.size _ ⟨_, heap_alloc_new w1 _, HB.out.size, HO.out.alloc _⟩ (by have := HB.out.size; simp; omega)).mono ?_
    rintro e w2 ⟨rfl, hst, hbel2⟩
    obtain ⟨v2, hheap, hbh, hown2⟩ := hst
    have hc : w2.cell? ⟨w1.heap.size, 0, none⟩ = some v2 := by rw [Joins.cell_of_block hheap]; rfl
    obtain ⟨av2, cv2, rfl, -⟩ := hown2.form
    rw [List.length_append] at hown2 hc
    have HO2 := hide hown2
    have HB2 := hide ((HB.out.alloc HB.out.size _).trans hbel2)
    clear hown2 hbel2 hheap
    go_wp2
    go_ret
    exact ⟨_, rfl, HO2.out, HB2.out⟩

set_option maxHeartbeats 1000000 in
set_option maxRecDepth 20000 in
theorem behindT_any (s : ByteArray) (more : List Nat) (a : Option Addr) (l : List Nat) (cap : Nat) (w : World) (hL : Came w.heap.size w a l) (hnil : a = none → l = [] ∧ cap = 0) (hm : l.length ≤ 20000)
    (hput : ∀ (h base : Nat) (w : World), St w base h l → base ≤ w.heap.size → Calls Try.prog 24 #[.pointer (some ⟨h, 0, none⟩), .string s] w fun e w' => e = .returned (.tuple #[]) ∧ St w' base h (l ++ more) ∧ Below base w w') :
    Calls Try.prog 23 #[.slice a l.length cap, .func (.func 24) #[] #[], .string s] w fun e w' => ∃ v, e = .returned v ∧ Owns w' w.heap.size v (l ++ more) ∧ Below w.heap.size w w' := by
  have HL := hide hL
  have HN := hide hnil
  have HP := hide hput
  clear hL hnil hput
  all_goals
    go_enter Try.func23, Try.ntmps23
    go_wp2_with fail
    refine (clone_any a l l.length cap w rfl HL.out HN.out hm).mono ?_
    rintro e w1 ⟨v, rfl, hown, hbel⟩
    obtain ⟨av, cv, rfl, -⟩ := hown.form
    have HO := hide hown
    have HB := hide hbel
    clear hown hbel
    go_wp2_with fail
    refine (HP.out w1.heap.size w.heap.size _ ⟨_, heap_alloc_new w1 _, HB.out.size, HO.out.alloc _⟩ (by have := HB.out.size; simp; omega)).mono ?_
    rintro e w2 ⟨rfl, hst, hbel2⟩
    obtain ⟨v2, hheap, hbh, hown2⟩ := hst
    have hc : w2.cell? ⟨w1.heap.size, 0, none⟩ = some v2 := by rw [Joins.cell_of_block hheap]; rfl
    obtain ⟨av2, cv2, rfl, -⟩ := hown2.form
    rw [List.length_append] at hown2 hc
    have HO2 := hide hown2
    have HB2 := hide ((HB.out.alloc HB.out.size _).trans hbel2)
    clear hown2 hbel2 hheap
    go_wp2
    go_ret
    exact ⟨_, rfl, HO2.out, HB2.out⟩

/-- A call that puts the bytes 'more' behind b's. -/
def Puts (f : Nat) (a : Option Addr) (l : List Nat) (cap : Nat) (x : Value) (more : List Nat) (w : World) : Prop :=
  Calls Try.prog f #[.slice a l.length cap, x] w fun e w' => ∃ v, e = .returned v ∧ Owns w' w.heap.size v (l ++ more) ∧ Below w.heap.size w w'

set_option maxHeartbeats 400000 in
theorem put_any (z : Int) (a : Option Addr) (l : List Nat) (cap : Nat) (w : World) (hL : Came w.heap.size w a l) (hnil : a = none → l = [] ∧ cap = 0) (hm : l.length ≤ 20000) :
    Puts 11 a l cap (.int .i64 z) (Vary.putI z) w := by
  unfold Puts
  have HL := hide hL
  have HN := hide hnil
  clear hL hnil
  go_enter Try.func11, Try.ntmps11
  go_wp2_with fail
  refine (behindI_any 22 z _ a l cap w HL.out HN.out hm (.inl rfl) (fun h base w hs hb => numI_any z h base l w hs hb hm)).mono ?_
  rintro e w1 ⟨v, rfl, h1, h2⟩
  have H1 := hide h1
  have H2 := hide h2
  clear h1 h2
  go_wp2
  go_ret
  exact ⟨v, rfl, H1.out, H2.out⟩

set_option maxHeartbeats 400000 in
theorem putT_any (s : ByteArray) (a : Option Addr) (l : List Nat) (cap : Nat) (w : World) (hL : Came w.heap.size w a l) (hnil : a = none → l = [] ∧ cap = 0) (hm : l.length ≤ 20000) (hs : s.size ≤ 10000) :
    Puts 12 a l cap (.string s) (Vary.putT (nums s)) w := by
  unfold Puts
  have HL := hide hL
  have HN := hide hnil
  clear hL hnil
  go_enter Try.func12, Try.ntmps12
  go_wp2_with fail
  refine (behindT_any s _ a l cap w HL.out HN.out hm (fun h base w h1 hb => text_any s h base l w h1 hb hm hs)).mono ?_
  rintro e w1 ⟨v, rfl, h1, h2⟩
  have H1 := hide h1
  have H2 := hide h2
  clear h1 h2
  go_wp2
  go_ret
  exact ⟨v, rfl, H1.out, H2.out⟩
end Go.Proofs.Ytgeboanebdmebab.V
