/- What a reader reads: numbers of any sign, and texts. -/
import Derived.Test.YtgeboanebdmebabVReads
namespace Vary
/-- A number of any sign, of what was read. -/
def sgn (z : Int) : Int := if z % 2 = 1 then -(z / 2 + 1) else z / 2
/-- A text at the head of bytes, and how many bytes it has with its number. -/
def txt (l : List Nat) : Option (List Nat × Nat) :=
  match num l with
  | some (n, k) => if n ≤ l.length - k then some ((l.drop k).take n, k + n) else none
  | none => none
end Vary
namespace Go.Proofs.Ytgeboanebdmebab.V
open Go.RowKit Go.By
set_option linter.unusedVariables false
set_option maxRecDepth 20000
attribute [local go_sem ↓] Go.wp_at_zero Go.wp_at_succ

theorem nums_form {g : Nat} {l : List Nat} {ok : Bool} {w w' : World} {z : Int} (h : Nums g l ok w z w') (hl : ∀ c ∈ l, c < 256) (hm : l.length ≤ 20000) :
    ∃ n l2 ok2, z = ((n : Nat) : Int) ∧ (n : Int) ≤ 4611686018427387904 ∧ Rd w' g l2 ok2 ∧ l2.length ≤ 20000 ∧ ∀ c ∈ l2, c < 256 := by
  rcases h.2 with ⟨n, k, h1, h2, h3⟩ | ⟨h1, h2, h3⟩
  · refine ⟨n, _, _, h2, ?_, h3, by simp; omega, fun c hc => hl c (List.mem_of_mem_drop hc)⟩
    have := (Vary.num_back hl h1).2.1
    unfold Vary.maxNum at this
    omega
  · exact ⟨0, _, _, h2, by omega, h3, by simp, by simp⟩

theorem nums_bounds {g : Nat} {l : List Nat} {ok : Bool} {w w' : World} {z : Int} (h : Nums g l ok w z w') (hl : ∀ c ∈ l, c < 256) (hm : l.length ≤ 20000) : 0 ≤ z ∧ z ≤ 4611686018427387904 := by
  obtain ⟨n, _, _, rfl, h2, _⟩ := nums_form h hl hm
  exact ⟨by omega, h2⟩

set_option maxHeartbeats 400000 in
theorem Text_nil (w : World) : Calls Try.prog 32 #[.pointer none] w fun e w' => e = .returned (.string (str [])) ∧ w' = w := by
  go_enter Try.func32, Try.ntmps32
  go_wp2
  go_ret
  exact ⟨rfl, rfl⟩

/-- What a reader is behind a text. -/
def Texts (g : Nat) (l : List Nat) (ok : Bool) (w : World) (s : List Nat) (w' : World) : Prop :=
  Turn g w w' ∧ ((∃ k, Vary.txt l = some (s, k) ∧ Rd w' g (l.drop k) ok) ∨ (Vary.txt l = none ∧ s = [] ∧ Rd w' g [] false))

theorem texts_of {g : Nat} {l l2 : List Nat} {ok ok2 : Bool} {w wd we : World} {n : Nat} {s : List Nat} (hn : Nums g l ok w (n : Int) wd) (hr : Rd wd g l2 ok2) (ht : Took g l2 ok2 n wd s we) (hl : ∀ c ∈ l, c < 256) (hl2 : ∀ c ∈ l2, c < 256) : Texts g l ok w s we := by
  refine ⟨hn.1.trans ht.1, ?_⟩
  have same : ∀ {m : List Nat} {b : Bool}, Rd wd g m b → (∀ c ∈ m, c < 256) → m = l2 ∧ b = ok2 := by
    intro m b h hs
    unfold Rd at h hr
    rw [h] at hr
    simp at hr
    exact ⟨str_inj hs hl2 hr.1, hr.2⟩
  rcases hn.2 with ⟨n', k, h1, h2, h3⟩ | ⟨h1, h2, h3⟩
  · have hn' : n' = n := by omega
    subst hn'
    obtain ⟨rfl, rfl⟩ := same h3 (fun c hc => hl c (List.mem_of_mem_drop hc))
    rcases ht.2 with ⟨h4, h5, h6⟩ | ⟨h4, h5, h6⟩
    · left
      refine ⟨k + n', ?_, ?_⟩
      · unfold Vary.txt
        rw [h1]
        simp only []
        rw [if_pos (by simpa using h4), h5]
      · rw [← List.drop_drop]; exact h6
    · right
      refine ⟨?_, h5, h6⟩
      unfold Vary.txt
      rw [h1]
      simp only []
      rw [if_neg (by simp at h4; omega)]
  · obtain ⟨rfl, rfl⟩ := same h3 (by simp)
    have hn0 : n = 0 := by omega
    subst hn0
    right
    have e : Vary.txt l = none := by unfold Vary.txt; rw [h1]
    rcases ht.2 with ⟨h4, h5, h6⟩ | ⟨h4, h5, h6⟩
    · exact ⟨e, by simpa using h5, by simpa using h6⟩
    · exact ⟨e, h5, h6⟩

set_option maxHeartbeats 1000000 in
set_option maxRecDepth 20000 in
theorem Text_any (g : Nat) (l : List Nat) (ok : Bool) (w : World) (hR : Rd w g l ok) (hl : ∀ c ∈ l, c < 256) (hm : l.length ≤ 20000) :
    Calls Try.prog 32 #[.pointer (some ⟨g, 0, none⟩)] w fun e w' => ∃ s, e = .returned (.string (str s)) ∧ Texts g l ok w s w' := by
  have hc0 : w.cell? ⟨g, 0, none⟩ = some (.string (str l)) := by rw [Joins.cell_of_block hR]; rfl
  have HR := hide hR
  have HT := hide (Turn.refl g w)
  have HLs := hide hl
  clear hR hl
  go_enter Try.func32, Try.ntmps32
  go_wp2
  refine free_start (by kernel_rfl) ?_
  replace HR : Hid (Rd w.drew g l ok) := HR
  replace HT : Hid (Turn g w w.drew) := (Turn.refl g w).drew
  generalize w.drew = wd at *
  refine free_take (i := 0) (oi := { dst := some 5, op := Op.move (Operand.tmp 0), type := 60, pos := _, after := _, guard := none }) (v := _) rfl (by kernel_rfl) (by kernel_rfl) (by kernel_rfl) (fun _ _ _ h => h) (by rfl) (by intro w'; go_simp; try with_reducible rfl) ?_
  simp only [Act.put, List.setIfInBounds_toArray, List.set_cons_zero, List.set_cons_succ]
  refine free_take (i := 1) (oi := { dst := some 6, op := Op.nilCheck (Operand.tmp 5), type := 0, pos := _, after := _, guard := none }) (v := _) rfl (by kernel_rfl) (by kernel_rfl) (by kernel_rfl) (fun _ _ _ h => h) (by rfl) (by intro w'; go_simp; try with_reducible rfl) ?_
  simp only [Act.put, List.setIfInBounds_toArray, List.set_cons_zero, List.set_cons_succ]
  refine free_take (i := 2) (oi := { dst := some 7, op := Op.fieldAddr 72 (Operand.tmp 6) 0, type := 0, pos := _, after := _, guard := none }) (v := _) rfl (by kernel_rfl) (by kernel_rfl) (by kernel_rfl) (fun _ _ _ h => h) (by rfl) (by intro w'; go_simp; try with_reducible rfl) ?_
  simp only [Act.put, List.setIfInBounds_toArray, List.set_cons_zero, List.set_cons_succ]
  refine free_take (i := 3) (oi := { dst := some 8, op := Op.move (Operand.tmp 0), type := 60, pos := _, after := _, guard := none }) (v := _) rfl (by kernel_rfl) (by kernel_rfl) (by kernel_rfl) (fun _ _ _ h => h) (by rfl) (by intro w'; go_simp; try with_reducible rfl) ?_
  simp only [Act.put, List.setIfInBounds_toArray, List.set_cons_zero, List.set_cons_succ]
  refine free_take (i := 4) (oi := { dst := some 9, op := Op.nilCheck (Operand.tmp 8), type := 0, pos := _, after := _, guard := none }) (v := _) rfl (by kernel_rfl) (by kernel_rfl) (by kernel_rfl) (fun _ _ _ h => h) (by rfl) (by intro w'; go_simp; try with_reducible rfl) ?_
  simp only [Act.put, List.setIfInBounds_toArray, List.set_cons_zero, List.set_cons_succ]
  refine free_take (i := 5) (oi := { dst := some 10, op := Op.fieldAddr 72 (Operand.tmp 9) 0, type := 0, pos := _, after := _, guard := none }) (v := _) rfl (by kernel_rfl) (by kernel_rfl) (by kernel_rfl) (fun _ _ _ h => h) (by rfl) (by intro w'; go_simp; try with_reducible rfl) ?_
  simp only [Act.put, List.setIfInBounds_toArray, List.set_cons_zero, List.set_cons_succ]
  refine free_step (i := 6) (o := { dst := some 11, op := Op.call { callee := Callee.value (Operand.func 35), args := #[Operand.tmp 10], argTypes := #[70] }, type := 3, pos := _, after := _, guard := none }) (by kernel_rfl) rfl (by rfl) (fun K hK => ?_)
  go_simp
  refine (pnum_any g l ok _ HR.out HLs.out hm).mono ?_
  rintro e wd ⟨z, rfl, hn⟩
  refine hK.out _ _ ?_
  have HNU := hide hn
  clear hn
  obtain ⟨n, l2, ok2, rfl, hn2, hr2, hl2, hs2⟩ := nums_form HNU.out HLs.out hm
  clear hK K
  try simp only [Act.put, List.setIfInBounds_toArray, List.set_cons_zero, List.set_cons_succ]
  refine free_step (i := 7) (o := { dst := some 12, op := Op.call { callee := Callee.value (Operand.func 36), args := #[Operand.tmp 7, Operand.tmp 11], argTypes := #[70, 3] }, type := 9, pos := _, after := _, guard := none }) (by kernel_rfl) rfl (by rfl) (fun K hK => ?_)
  go_simp
  refine (take_any g l2 ok2 n _ hr2 hl2 hn2).mono ?_
  rintro e we ⟨s, rfl, ht⟩
  refine hK.out _ _ ?_
  clear hK K
  try simp only [Act.put, List.setIfInBounds_toArray, List.set_cons_zero, List.set_cons_succ]
  refine free_take (i := 8) (oi := { dst := some 2, op := Op.assign (Operand.tmp 12), type := 9, pos := _, after := _, guard := none }) (v := _) rfl (by kernel_rfl) (by kernel_rfl) (by kernel_rfl) (fun _ _ _ h => h) (by rfl) (by intro w'; go_simp; try with_reducible rfl) ?_
  simp only [Act.put, List.setIfInBounds_toArray, List.set_cons_zero, List.set_cons_succ]
  refine free_done (by kernel_rfl) ?_
  go_wp2
  go_ret
  have hx := texts_of HNU.out hr2 ht HLs.out hs2
  exact ⟨s, rfl, HT.out.trans hx.1, hx.2⟩
end Go.Proofs.Ytgeboanebdmebab.V
