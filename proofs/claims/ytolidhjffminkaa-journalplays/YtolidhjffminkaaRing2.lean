/- The ring: what is pushed and set. -/
import Derived.Test.YtolidhjffminkaaRing
namespace Go.Proofs.Ytolidhjffminkaa
open Go.RowKit Go.By
set_option linter.unusedVariables false

theorem Try.info3 : (Try.prog.info? 3).map (fun i => (i.zero, i.size, i.bytes)) = some (some (.int .i64 0), 1, 8) := by kernel_rfl
theorem Try.info9 : (Try.prog.info? 9).map (fun i => (i.zero, i.size, i.bytes)) = some (some (.string ⟨#[]⟩), 1, 16) := by kernel_rfl

/-- What an operation of the ring turned: the ring's own blocks alone. -/
def Turned (g : Nat) (r r' : Option Nat) (w w' : World) : Prop := Only (fun k => k = g ∨ some k = r) w w' ∧ (r' = r ∨ ∃ k, r' = some k ∧ w.heap.size ≤ k)

theorem Turned.refl (g : Nat) (r : Option Nat) (w : World) : Turned g r r w w := ⟨Only.refl _ w, .inl rfl⟩
theorem Turned.drewN (g : Nat) (r : Option Nat) (w : World) (q : Nat) : Turned g r r w (w.drewN q) := ⟨Only.drewN _ w q, .inl rfl⟩

theorem Turned.trans {g : Nat} {r r1 r2 : Option Nat} {w w1 w2 : World} (h : Turned g r r1 w w1) (k : Turned g r1 r2 w1 w2) : Turned g r r2 w w2 := by
  refine ⟨h.1.then k.1 fun i hi hs => hs.elim .inl fun e => ?_, ?_⟩
  · rcases h.2 with rfl | ⟨k, rfl, hk⟩
    · exact .inr e
    · cases e; omega
  · rcases k.2 with rfl | ⟨j, rfl, hk⟩
    · exact h.2
    · exact .inr ⟨j, rfl, Nat.le_trans h.1.size hk⟩

theorem Turned.below {B g : Nat} {r r' : Option Nat} {w w' : World} (h : Turned g r r' w w') (hB : B ≤ w.heap.size) (hg : B ≤ g) (hr : ∀ k, r = some k → B ≤ k) : Below B w w' :=
  h.1.below hB fun i hi => hi.elim (fun e => e ▸ hg) fun e => hr i e.symm

theorem RingIs.room {T E : TypeId} {w : World} {B g most : Nat} {r : Option Nat} {xs : List Value} (h : RingIs T E w B g most r xs) : ∀ k, r = some k → B ≤ k ∧ k < w.heap.size := by
  obtain ⟨_, v, f, junk, hg, hr, hj, hf, rfl, _⟩ := h
  exact fun k hk => ownBlock_lt hr hk

theorem RingIs.lt {T E : TypeId} {w : World} {B g most : Nat} {r : Option Nat} {xs : List Value} (h : RingIs T E w B g most r xs) : B ≤ g ∧ g < w.heap.size := by
  obtain ⟨hb, v, f, junk, hg, _⟩ := h
  exact ⟨hb, lt_of_heap hg⟩

theorem RingIs.same {T E : TypeId} {w w' : World} {B g most : Nat} {r : Option Nat} {xs : List Value} (h : RingIs T E w B g most r xs) (h1 : w'.heap[g]? = w.heap[g]?) (h2 : ∀ k, r = some k → w'.heap[k]? = w.heap[k]?) : RingIs T E w' B g most r xs := by
  obtain ⟨hb, v, f, junk, hg, hr, hj, hf, hv, rest⟩ := h
  subst hv
  exact ⟨hb, v, f, junk, h1.trans hg, ownsRow_same hr h2, hj, hf, rfl, rest⟩

theorem RingIs.only {T E : TypeId} {S : Nat → Prop} {w w' : World} {B g most : Nat} {r : Option Nat} {xs : List Value} (h : RingIs T E w B g most r xs) (ho : Only S w w') (h1 : ¬ S g) (h2 : ∀ k, r = some k → ¬ S k) : RingIs T E w' B g most r xs :=
  h.same (ho.block g h.lt.2 h1) fun k hk => ho.block k (h.room k hk).2 (h2 k hk)

/-- Behind an append: the new room is stored. -/
theorem RingIs.pushed {T E : TypeId} (hTE : T ≠ E) {w w1 : World} {B g most f cap k : Nat} {v : Value} {junk xs : List Value} {x : Value} {o : Obj} (hB : B ≤ g)
    (hg : w.heap[g]? = some (.cells #[.int .i64 (most : Int), v, .int .i64 (f : Int)] T (0, 0))) (hr : w.ownsRow B E 1 v (f + xs.length) (junk ++ xs)) (hj : junk.length = f) (hf : f ≤ xs.length)
    (h1 : ∀ u ∈ xs, u.oneCell' = true) (hx : x.oneCell' = true) (hm : 1 ≤ most) (hm2 : most ≤ 65536) (hl : xs.length < most)
    (hr' : w1.ownsRow B E 1 (.slice (some ⟨k, 0, none⟩) (f + xs.length + 1) cap) (f + xs.length + 1) (junk ++ xs ++ [x])) (hgr : (w.alloc o).grownBy w1 v.ownBlock) (hk : v.ownBlock = some k ∨ k = w.heap.size + 1) :
    RingIs T E (w1.setCell ⟨g, 1, none⟩ (.slice (some ⟨k, 0, none⟩) (f + xs.length + 1) cap)) B g most (some k) (xs ++ [x]) ∧ Turned g v.ownBlock (some k) w (w1.setCell ⟨g, 1, none⟩ (.slice (some ⟨k, 0, none⟩) (f + xs.length + 1) cap)) := by
  have hlt := lt_of_heap hg
  have hg1 : w1.heap[g]? = some (.cells #[.int .i64 (most : Int), v, .int .i64 (f : Int)] T (0, 0)) := by
    rw [hgr.block g (by simp; omega) (ownBlock_ne hr hg hTE), Below.heap_alloc w o g hlt, hg]
  have hne : k ≠ g := fun e => ownBlock_ne hr' hg1 hTE (by rw [e]; rfl)
  refine ⟨⟨hB, _, f, junk, heap_setCell hg1 _, ownsRow_same (by simpa [Nat.add_assoc] using hr') (fun k' hk' => ?_), hj, by simp; omega, rfl, ?_, hm, hm2, by simp; omega⟩, ?_, ?_⟩
  · obtain rfl : k = k' := by simpa [Value.ownBlock] using hk'
    exact heap_setCell_ne _ hne
  · intro u hu
    rcases List.mem_append.1 hu with hu | hu
    · exact h1 u hu
    · simp at hu; subst hu; exact hx
  · refine ((Only.alloc _ w o).trans (Only.grown hgr fun k' hk' => .inr hk'.symm)).trans (Only.setCell _ _ _ (.inl rfl))
  · rcases hk with hk | hk
    · exact .inl hk.symm
    · exact .inr ⟨k, rfl, by omega⟩

end Go.Proofs.Ytolidhjffminkaa
