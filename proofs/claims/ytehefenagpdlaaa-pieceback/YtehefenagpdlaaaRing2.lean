/- The ring: what is pushed and set. -/
import Derived.Test.YtehefenagpdlaaaRing
namespace Go.Proofs.Ytehefenagpdlaaa
open Go.RowKit Go.By
set_option linter.unusedVariables false

theorem Try.info3 : (Try.prog.info? 3).map (fun i => (i.zero, i.size, i.bytes)) = some (some (.int .i64 0), 1, 8) := by kernel_rfl
theorem Try.info9 : (Try.prog.info? 9).map (fun i => (i.zero, i.size, i.bytes)) = some (some (.string ⟨#[]⟩), 1, 16) := by kernel_rfl

/-- What an operation of the ring turned: the ring's own blocks alone. -/
def Turned (g : Nat) (r r' : Option Nat) (w w' : World) : Prop := Only (fun k => k = g ∨ some k = r) w w' ∧ (r' = r ∨ ∃ k, r' = some k ∧ w.heap.size ≤ k)

theorem Turned.refl (g : Nat) (r : Option Nat) (w : World) : Turned g r r w w := ⟨Only.refl _ w, .inl rfl⟩
theorem Turned.drewN (g : Nat) (r : Option Nat) (w : World) (q : Nat) : Turned g r r w (w.drewN q) := ⟨Only.drewN _ w q, .inl rfl⟩

theorem Turned.trans {g : Nat} {r r1 r2 : Option Nat} {w w1 w2 : World} (h : Turned g r r1 w w1) (k : Turned g r1 r2 w1 w2) : Turned g r r2 w w2 := by
  refine ⟨h.1.then k.1 fun i hi hs => hs.elim .inl fun e => ?_, ?_⟩
  · rcases h.2 with rfl | ⟨k, rfl, hk⟩
    · exact .inr e
    · cases e; omega
  · rcases k.2 with rfl | ⟨j, rfl, hk⟩
    · exact h.2
    · exact .inr ⟨j, rfl, Nat.le_trans h.1.size hk⟩

theorem Turned.below {B g : Nat} {r r' : Option Nat} {w w' : World} (h : Turned g r r' w w') (hB : B ≤ w.heap.size) (hg : B ≤ g) (hr : ∀ k, r = some k → B ≤ k) : Below B w w' :=
  h.1.below hB fun i hi => hi.elim (fun e => e ▸ hg) fun e => hr i e.symm

theorem RingIs.room {T E : TypeId} {w : World} {B g most : Nat} {r : Option Nat} {xs : List Value} (h : RingIs T E w B g most r xs) : ∀ k, r = some k → B ≤ k ∧ k < w.heap.size := by
  obtain ⟨_, v, f, junk, hg, hr, hj, hf, rfl, _⟩ := h
  exact fun k hk => ownBlock_lt hr hk

theorem RingIs.lt {T E : TypeId} {w : World} {B g most : Nat} {r : Option Nat} {xs : List Value} (h : RingIs T E w B g most r xs) : B ≤ g ∧ g < w.heap.size := by
  obtain ⟨hb, v, f, junk, hg, _⟩ := h
  exact ⟨hb, lt_of_heap hg⟩

theorem RingIs.same {T E : TypeId} {w w' : World} {B g most : Nat} {r : Option Nat} {xs : List Value} (h : RingIs T E w B g most r xs) (h1 : w'.heap[g]? = w.heap[g]?) (h2 : ∀ k, r = some k → w'.heap[k]? = w.heap[k]?) : RingIs T E w' B g most r xs := by
  obtain ⟨hb, v, f, junk, hg, hr, hj, hf, hv, rest⟩ := h
  subst hv
  exact ⟨hb, v, f, junk, h1.trans hg, ownsRow_same hr h2, hj, hf, rfl, rest⟩

theorem RingIs.only {T E : TypeId} {S : Nat → Prop} {w w' : World} {B g most : Nat} {r : Option Nat} {xs : List Value} (h : RingIs T E w B g most r xs) (ho : Only S w w') (h1 : ¬ S g) (h2 : ∀ k, r = some k → ¬ S k) : RingIs T E w' B g most r xs :=
  h.same (ho.block g h.lt.2 h1) fun k hk => ho.block k (h.room k hk).2 (h2 k hk)

/-- Behind an append: the new room is stored. -/
theorem RingIs.pushed {T E : TypeId} (hTE : T ≠ E) {w w1 : World} {B g most f cap k : Nat} {v : Value} {junk xs : List Value} {x : Value} {o : Obj} (hB : B ≤ g)
    (hg : w.heap[g]? = some (.cells #[.int .i64 (most : Int), v, .int .i64 (f : Int)] T (0, 0))) (hr : w.ownsRow B E 1 v (f + xs.length) (junk ++ xs)) (hj : junk.length = f) (hf : f ≤ xs.length)
    (h1 : ∀ u ∈ xs, u.oneCell' = true) (hx : x.oneCell' = true) (hm : 1 ≤ most) (hm2 : most ≤ 65536) (hl : xs.length < most)
    (hr' : w1.ownsRow B E 1 (.slice (some ⟨k, 0, none⟩) (f + xs.length + 1) cap) (f + xs.length + 1) (junk ++ xs ++ [x])) (hgr : (w.alloc o).grownBy w1 v.ownBlock) (hk : v.ownBlock = some k ∨ k = w.heap.size + 1) :
    RingIs T E (w1.setCell ⟨g, 1, none⟩ (.slice (some ⟨k, 0, none⟩) (f + xs.length + 1) cap)) B g most (some k) (xs ++ [x]) ∧ Turned g v.ownBlock (some k) w (w1.setCell ⟨g, 1, none⟩ (.slice (some ⟨k, 0, none⟩) (f + xs.length + 1) cap)) := by
  have hlt := lt_of_heap hg
  have hg1 : w1.heap[g]? = some (.cells #[.int .i64 (most : Int), v, .int .i64 (f : Int)] T (0, 0)) := by
    rw [hgr.block g (by simp; omega) (ownBlock_ne hr hg hTE), Below.heap_alloc w o g hlt, hg]
  have hne : k ≠ g := fun e => ownBlock_ne hr' hg1 hTE (by rw [e]; rfl)
  refine ⟨⟨hB, _, f, junk, heap_setCell hg1 _, ownsRow_same (by simpa [Nat.add_assoc] using hr') (fun k' hk' => ?_), hj, by simp; omega, rfl, ?_, hm, hm2, by simp; omega⟩, ?_, ?_⟩
  · obtain rfl : k = k' := by simpa [Value.ownBlock] using hk'
    exact heap_setCell_ne _ hne
  · intro u hu
    rcases List.mem_append.1 hu with hu | hu
    · exact h1 u hu
    · simp at hu; subst hu; exact hx
  · refine ((Only.alloc _ w o).trans (Only.grown hgr fun k' hk' => .inr hk'.symm)).trans (Only.setCell _ _ _ (.inl rfl))
  · rcases hk with hk | hk
    · exact .inl hk.symm
    · exact .inr ⟨k, rfl, by omega⟩

set_option maxRecDepth 20000 in
set_option maxHeartbeats 2000000 in
theorem push_ok_int (B g most : Nat) (r : Option Nat) (xs : List Value) (x : Int) (w : World) (h : RingIs 54 3 w B g most r xs) (hB : B ≤ w.heap.size) (hl : xs.length < most) :
    Calls Try.prog 12 #[.pointer (some ⟨g, 0, none⟩), .int .i64 x] w fun e w' => e = .returned (.int .i64 0) ∧ ∃ r', RingIs 54 3 w' B g most r' (xs ++ [.int .i64 x]) ∧ Turned g r r' w w' := by
  have hm := most_int B g most r xs w h
  have hL : ∀ n, Calls Try.prog 20 #[.pointer (some ⟨g, 0, none⟩)] (w.drewN n) fun e w' => e = .returned (.int .i64 (xs.length : Int)) ∧ ∃ q, w' = (w.drewN n).drewN q := fun n => len_int B g most r xs (w.drewN n) h
  obtain ⟨a, f, cap, c0, c1, c2, hf, hm1, h1, h2, hc, hc2, hn, hs⟩ := h.cells
  obtain ⟨i0, hi, hz0, hz1, hz2⟩ := info_parts Try.info3
  obtain ⟨hBg, v, f', junk, hg, hr, hj, hf', hv, h1', hmm, hmm2, hlm⟩ := h
  obtain rfl : v = .slice a (f + xs.length) cap := by rw [Joins.cell_of_block hg] at c1; simpa using c1
  obtain rfl : f' = f := by
    rw [Joins.cell_of_block hg] at c2
    have : (f' : Int) = f := by simpa using c2
    omega
  have hfz : w.frozen? ⟨g, 1, none⟩ = false := by simp [World.frozen?, hg]
  have hmne : ¬ (most : Int) = 0 := by omega
  have hlne : ¬ ((xs.length : Int) = (most : Int)) := by omega
  have hd1 : decide ((most : Int) = 0) = false := decide_eq_false hmne
  have hd2 : ((xs.length : Int) == (most : Int)) = false := by simpa using hlne
  have HR := hide hr
  have HG := hide hg
  have HV := hide hv
  have H1 := hide h1'
  clear hr hg hv h1' hn hs
  go_enter Try.func12, Try.ntmps12
  go_wp2_with (go_at_call 11; refine hm.mono ?_; rintro e w' ⟨rfl, hw'⟩; subst hw')
  go_quiet ((go_at_call 20; exact Calls.quiet_of (hL _)))
  go_wp2_with (at_builtin; refine wpList_append_lies _ rfl _ _ 27 rfl B 3 i0 (.int .i64 0) 1 8 Try.underlying27 hi hz0 hz1 hz2 rfl (by decide) (.slice a (f' + xs.length) cap) (f' + xs.length) (junk ++ xs) rfl (World.ownsRow.alloc HR.out _) ⟨w'.heap.size, 0, none⟩ 1 1 [.int .i64 x] rfl rfl (cell_one_new _ _ _) (by simp [Value.oneCell']) (by omega) (by unfold maxLen; omega) (by omega) (by simp; omega) (w'.heap.size + 1) (by simp) ?_; intro k cap' w1 hr' hgr hk hlt; have hg1 : w1.heap[g]? = w'.heap[g]? := (hgr.block g (by simp; have := lt_of_heap HG.out; omega) (ownBlock_ne HR.out HG.out (by decide))).trans (Below.heap_alloc w' _ g (lt_of_heap HG.out)); have c1' : w1.cell? ⟨g, 1, none⟩ = some (Value.slice a (f' + xs.length) cap) := (World.cell?_of_block (a := ⟨g, 1, none⟩) hg1).trans c1; have fz' : w1.frozen? ⟨g, 1, none⟩ = false := (World.frozen?_of_block (a := ⟨g, 1, none⟩) hg1).trans hfz; have HR' := hide hr'; have HGR := hide hgr; have HK := hide hk; have HG1 := hide hg1; clear hr' hgr hk hg1)
  go_ret
  obtain ⟨k1, k2⟩ := RingIs.pushed (T := 54) (E := 3) (w := w'.drewN nq) (by decide) hBg HG.out HR.out hj hf' H1.out (x := .int .i64 x) rfl h1 h2 hl HR'.out HGR.out HK.out
  exact ⟨rfl, _, k1, (Turned.drewN g r w' nq).trans (HV.out ▸ k2)⟩

end Go.Proofs.Ytehefenagpdlaaa
