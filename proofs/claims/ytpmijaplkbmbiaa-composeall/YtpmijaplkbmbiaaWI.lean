/- compose: one step of what reads an edit. -/
import Derived.Test.YtpmijaplkbmbiaaX6
import Derived.Test.YtpmijaplkbmbiaaX8
import Derived.Test.YtpmijaplkbmbiaaU8
namespace Go.Proofs.Ytpmijaplkbmbiaa.E
open Go.Proofs.Ytpmijaplkbmbiaa Go.RowKit Go.By Go.Shelf
set_option linter.unusedVariables false
set_option linter.unusedSimpArgs false

theorem only_drew {S : Nat → Prop} (w : World) : Only S w w.drew := ⟨rfl, rfl, rfl, Nat.le_refl _, fun _ _ _ => rfl⟩
theorem only_below {S : Nat → Prop} {w w' : World} (h : Below w.heap.size w w') : Only S w w' := ⟨h.os, h.tape, h.output, h.size, fun k hk _ => h.block k hk⟩

/-- A whole run is stored onto one that lies in a box. -/
theorem store91 {o : Oper} {a : Act} {w : World} {p x : Operand} {g : Nat} {k d k' d' : Int} {s s' : ByteArray} (ho : o.op = .store 91 p x) (ha : a.eval p = .pointer (some ⟨g, 0, none⟩)) (hx : a.eval x = .agg #[.int .i64 k', .string s', .int .i64 d'])
    (hc : w.heap[g]? = some (.cells #[.int .i64 k, .string s, .int .i64 d] 91 (0, 0))) :
    ∃ w', (execOp a.eval o).run Try.prog w = .ok .skip w' ∧ w'.heap[g]? = some (.cells #[.int .i64 k', .string s', .int .i64 d'] 91 (0, 0)) ∧ Only (fun x => x = g) w w' := by
  obtain ⟨c0, c1, c2⟩ := cellsq hc
  have f0 : w.frozen? ⟨g, 0, none⟩ = false := by simp [World.frozen?, hc]
  have f1 : w.frozen? ⟨g, 1, none⟩ = false := by simp [World.frozen?, hc]
  have f2 : w.frozen? ⟨g, 2, none⟩ = false := by simp [World.frozen?, hc]
  refine ⟨((w.setCell ⟨g, 0, none⟩ (.int .i64 k')).setCell ⟨g, 1, none⟩ (.string s')).setCell ⟨g, 2, none⟩ (.int .i64 d'), ?_, ?_, ?_⟩
  · unfold execOp
    rw [ho]
    simp only [ha, hx]
    go_simp
  · have h1 := heap_setCell (i := 0) hc (.int .i64 k')
    have h2 := heap_setCell (i := 1) h1 (.string s')
    have h3 := heap_setCell (i := 2) h2 (.int .i64 d')
    simpa using h3
  · exact ((Only.setCell (S := fun x => x = g) w ⟨g, 0, none⟩ _ rfl).trans (Only.setCell (S := fun x => x = g) _ ⟨g, 1, none⟩ _ rfl)).trans (Only.setCell (S := fun x => x = g) _ ⟨g, 2, none⟩ _ rfl)

theorem wp_store91 {o : Oper} {a : Act} {w : World} {K : Act → World → Prop} {Q : Exit → Act → World → Prop} {p x : Operand} {g : Nat} {k d k' d' : Int} {s s' : ByteArray} (ho : o.op = .store 91 p x) (ha : a.eval p = .pointer (some ⟨g, 0, none⟩)) (hx : a.eval x = .agg #[.int .i64 k', .string s', .int .i64 d'])
    (hc : w.heap[g]? = some (.cells #[.int .i64 k, .string s, .int .i64 d] 91 (0, 0)))
    (h : ∀ w', w'.heap[g]? = some (.cells #[.int .i64 k', .string s', .int .i64 d'] 91 (0, 0)) → Only (fun x => x = g) w w' → K (a.put o.dst undef) w') : Oper.wp Try.prog o a w K Q := by
  obtain ⟨w', h1, h2, h3⟩ := store91 ho ha hx hc
  exact oper_skip h1 (h w' h2 h3)

theorem wp_store77 {o : Oper} {a : Act} {w : World} {K : Act → World → Prop} {Q : Exit → Act → World → Prop} {p x : Operand} {g : Nat} {q q' : Option Addr} {n c n' c' : Nat} (ho : o.op = .store 77 p x) (ha : a.eval p = .pointer (some ⟨g, 0, none⟩)) (hx : a.eval x = .slice q' n' c')
    (hc : w.heap[g]? = some (.cells #[.slice q n c] 77 (0, 0)))
    (h : ∀ w', w'.heap[g]? = some (.cells #[.slice q' n' c'] 77 (0, 0)) → Only (fun x => x = g) w w' → K (a.put o.dst undef) w') : Oper.wp Try.prog o a w K Q :=
  oper_skip (store_at ho ha hx (by rw [Joins.cell_of_block hc]; rfl) (by simp [World.frozen?, hc]) ⟨_, _, _, rfl⟩)
    (h _ (by simpa using heap_setCell (i := 0) hc (.slice q' n' c')) (Only.setCell (S := fun x => x = g) w ⟨g, 0, none⟩ _ rfl))

/-- What a step of a reader reads and writes: the run that it is at, what lies behind, its result. -/
def RS (g1 g2 h : Nat) (k : Int) (s : ByteArray) (d : Int) (pa : Option Addr) (n cap : Nat) (w' : World) : Prop :=
  w'.heap[g1]? = some (.cells #[.int .i64 k, .string s, .int .i64 d] 91 (0, 0)) ∧ w'.heap[g2]? = some (.cells #[.slice pa n cap] 77 (0, 0)) ∧ w'.heap[h]? = some (.cells #[.int .i64 0, .string ⟨#[]⟩, .int .i64 0] 91 (0, 0))
theorem RS.up {g1 g2 h : Nat} {k d : Int} {s : ByteArray} {pa : Option Addr} {n cap : Nat} {X Y : World} (h0 : RS g1 g2 h k s d pa n cap X) (hb : Below X.heap.size X Y) : RS g1 g2 h k s d pa n cap Y :=
  ⟨(hb.block _ (lt_of_heap h0.1)).trans h0.1, (hb.block _ (lt_of_heap h0.2.1)).trans h0.2.1, (hb.block _ (lt_of_heap h0.2.2)).trans h0.2.2⟩
theorem RS.put {g1 g2 h : Nat} {k d k' d' : Int} {s s' : ByteArray} {pa : Option Addr} {n cap : Nat} {X Y : World} (h0 : RS g1 g2 h k s d pa n cap X) (h2 : g2 ≠ g1) (hh : h ≠ g1) (hq : Y.heap[g1]? = some (.cells #[.int .i64 k', .string s', .int .i64 d'] 91 (0, 0))) (ho : Only (fun x => x = g1) X Y) : RS g1 g2 h k' s' d' pa n cap Y :=
  ⟨hq, (ho.block _ (lt_of_heap h0.2.1) h2).trans h0.2.1, (ho.block _ (lt_of_heap h0.2.2) hh).trans h0.2.2⟩
theorem res91 {w : World} {h : Nat} {k d : Int} {s : ByteArray} (hc : w.heap[h]? = some (.cells #[.int .i64 0, .string ⟨#[]⟩, .int .i64 0] 91 (0, 0))) :
    ((w.setCell ⟨h, 0, none⟩ (.int .i64 k)).setCell ⟨h, 1, none⟩ (.string s)).setCell ⟨h, 2, none⟩ (.int .i64 d) |>.heap[h]? = some (.cells #[.int .i64 k, .string s, .int .i64 d] 91 (0, 0)) := by
  have h1 := heap_setCell (i := 0) hc (.int .i64 k)
  have h2 := heap_setCell (i := 1) h1 (.string s)
  have h3 := heap_setCell (i := 2) h2 (.int .i64 d)
  simpa using h3
theorem only_res (w : World) (h : Nat) (x y z : Value) : Only (fun k => k = h) w (((w.setCell ⟨h, 0, none⟩ x).setCell ⟨h, 1, none⟩ y).setCell ⟨h, 2, none⟩ z) :=
  ((Only.setCell (S := fun x => x = h) w ⟨h, 0, none⟩ _ rfl).trans (Only.setCell (S := fun x => x = h) _ ⟨h, 1, none⟩ _ rfl)).trans (Only.setCell (S := fun x => x = h) _ ⟨h, 2, none⟩ _ rfl)
theorem unfrozen {w : World} {h i : Nat} {cs : Array Value} {t : TypeId} (hc : w.heap[h]? = some (.cells cs t (0, 0))) : w.frozen? ⟨h, i, none⟩ = false := by simp [World.frozen?, hc]

theorem cell_other {g b off : Nat} {X Y : World} {v : Value} (h : Only (fun x => x = g) X Y) (hb : b ≠ g) (hc : X.cell? ⟨b, off, none⟩ = some v) : Y.cell? ⟨b, off, none⟩ = some v := by
  have hl : b < X.heap.size := World.block_lt_of_cell? X _ hc
  have hk := h.block b hl hb
  simp only [World.cell?] at *
  rw [hk]
  exact hc
theorem only_new {S : Nat → Prop} {W X Y : World} {h : Nat} (h1 : Only S W X) (h2 : Only (fun k => k = h) X Y) (hh : W.heap.size ≤ h) : Only S W Y :=
  ⟨h2.os.trans h1.os, h2.tape.trans h1.tape, h2.output.trans h1.output, Nat.le_trans h1.size h2.size, fun k hk hn => (h2.block k (Nat.lt_of_lt_of_le hk h1.size) (fun e => by omega)).trans (h1.block k hk hn)⟩

set_option maxRecDepth 100000 in
set_option maxHeartbeats 8000000 in
theorem reader1_gen (g1 g2 m L n cap : Nat) (k d k' d' : Int) (s s' : ByteArray) (pa : Option Addr) (W : World)
    (h1 : W.heap[g1]? = some (.cells #[.int .i64 k, .string s, .int .i64 d] 91 (0, 0))) (h2 : W.heap[g2]? = some (.cells #[.slice pa n cap] 77 (0, 0))) (h12 : g2 ≠ g1)
    (hsz : ∀ X, Calls Try.prog 142 #[.agg #[.int .i64 k, .string s, .int .i64 d]] X fun e W' => e = .returned (.int .i64 (L : Int)) ∧ Below X.heap.size X W')
    (hpt : ∀ X, Calls Try.prog 143 #[.agg #[.int .i64 k, .string s, .int .i64 d], .int .i64 (m : Int), .int .i64 (L : Int)] X fun e W' => e = .returned (.agg #[.int .i64 k', .string s', .int .i64 d']) ∧ Below X.heap.size X W')
    (hnz : k' = 0 → s'.toList = [] → d' = 0 → ¬ 0 < n) :
    Calls Try.prog 159 #[.int .i64 (m : Int), .pointer (some ⟨g1, 0, none⟩), .pointer (some ⟨g2, 0, none⟩)] W fun e W' => e = .returned (.agg #[.int .i64 k', .string s', .int .i64 d']) ∧
      W'.heap[g1]? = some (.cells #[.int .i64 k', .string s', .int .i64 d'] 91 (0, 0)) ∧ W'.heap[g2]? = some (.cells #[.slice pa n cap] 77 (0, 0)) ∧ Only (fun x => x = g1 ∨ x = g2) W W' := by
  have HSZ := hide hsz
  have HPT := hide hpt
  have HNZ := hide hnz
  have hz := World.alloc_heap_new W (.cells #[.int .i64 0, .string ⟨#[]⟩, .int .i64 0] 91)
  have HSW : Hid (RS g1 g2 W.heap.size k s d pa n cap (W.alloc (.cells #[.int .i64 0, .string ⟨#[]⟩, .int .i64 0] 91)).drew) := hide ⟨(Below.heap_alloc W _ _ (lt_of_heap h1)).trans h1, (Below.heap_alloc W _ _ (lt_of_heap h2)).trans h2, hz⟩
  have HH := hide (And.intro h12 (And.intro (Nat.ne_of_gt (lt_of_heap h1)) (Nat.ne_of_gt (lt_of_heap h2))))
  clear hsz hpt h1 h2 h12 hnz hz
  go_enter Try.func159, Try.ntmps159
  go_wp2_with fail
  refine heldC_startP 1 (S := RS g1 g2 W.heap.size k s d pa n cap) (L := #[true, true, true, true, true, false]) (fuel := 5) (by kernel_rfl) (by kernel_rfl) ?_
  refine heldC_take (i := 0) (oi := { dst := some 5, op := Op.load 91 (Operand.tmp 1), type := 91, pos := _, after := _, guard := none }) (v := _) rfl (by kernel_rfl) (by kernel_rfl) (by kernel_rfl) (fun _ _ _ h => h) (by rfl) (by intro w' hSw; obtain ⟨r0, r1, r2⟩ := cellsq hSw.1; go_simp; try with_reducible rfl) HSW.out (by kernel_rfl) ?_
  simp only [Act.put, List.setIfInBounds_toArray, List.set_cons_zero, List.set_cons_succ]
  refine heldC_take (i := 1) (oi := { dst := some 6, op := Op.move (Operand.tmp 0), type := 3, pos := _, after := _, guard := none }) (v := _) rfl (by kernel_rfl) (by kernel_rfl) (by kernel_rfl) (fun _ _ _ h => h) (by rfl) (by intro w' hSw; go_simp; try with_reducible rfl) HSW.out (by kernel_rfl) ?_
  simp only [Act.put, List.setIfInBounds_toArray, List.set_cons_zero, List.set_cons_succ]
  refine heldC_take (i := 2) (oi := { dst := some 7, op := Op.load 91 (Operand.tmp 1), type := 91, pos := _, after := _, guard := none }) (v := _) rfl (by kernel_rfl) (by kernel_rfl) (by kernel_rfl) (fun _ _ _ h => h) (by rfl) (by intro w' hSw; obtain ⟨r0, r1, r2⟩ := cellsq hSw.1; go_simp; try with_reducible rfl) HSW.out (by kernel_rfl) ?_
  simp only [Act.put, List.setIfInBounds_toArray, List.set_cons_zero, List.set_cons_succ]
  refine heldC_step (i := 3) (o := { dst := some 8, op := Op.call { callee := Callee.value (Operand.func 142), args := #[Operand.tmp 7], argTypes := #[91] }, type := 3, pos := _, after := _, guard := none }) (by kernel_rfl) rfl (by rfl) HSW.out (fun K hK => ?_)
  go_simp
  refine (HSZ.out _).mono ?_
  rintro e V1 ⟨rfl, hb1⟩
  replace HSW := hide (HSW.out.up hb1)
  have HO1 := hide ((Only.alloc (fun k => k = g1 ∨ k = g2) W _).trans (only_drew _ |>.trans (only_below hb1)))
  clear hb1
  refine hK.out _ _ ?_
  clear hK K
  try simp only [Act.put, List.setIfInBounds_toArray, List.set_cons_zero, List.set_cons_succ]
  refine heldC_step (i := 4) (o := { dst := some 9, op := Op.call { callee := Callee.value (Operand.func 143), args := #[Operand.tmp 5, Operand.tmp 6, Operand.tmp 8], argTypes := #[91, 3, 3] }, type := 91, pos := _, after := _, guard := none }) (by kernel_rfl) rfl (by rfl) HSW.out (fun K hK => ?_)
  go_simp
  refine (HPT.out _).mono ?_
  rintro e V2 ⟨rfl, hb2⟩
  replace HSW := hide (HSW.out.up hb2)
  have HO2 := hide (HO1.out.trans (only_below hb2))
  clear hb2 HO1
  refine hK.out _ _ ?_
  clear hK K
  try simp only [Act.put, List.setIfInBounds_toArray, List.set_cons_zero, List.set_cons_succ]
  refine heldC_cut (by kernel_rfl) HSW.out ?_
  refine any_last (i := 5) (by kernel_rfl) rfl (by rfl) (by kernel_rfl) ?_
  refine wp_store91 rfl rfl rfl HSW.out.1 fun V3 hq3 ho3 => ?_
  simp only [Act.put, List.setIfInBounds_toArray, List.set_cons_zero, List.set_cons_succ]
  have HR3 := hide (HSW.out.put HH.out.1 HH.out.2.1 hq3 ho3)
  have HO3 := hide (HO2.out.trans (ho3.mono fun x _ hx => Or.inl hx))
  clear ho3 HO2 hq3 HSW
  obtain ⟨r0, r1, r2⟩ := cellsq HR3.out.1
  have c2 : V3.cell? ⟨g2, 0, none⟩ = some (.slice pa n cap) := by rw [Joins.cell_of_block HR3.out.2.1]; rfl
  obtain ⟨e0, e1, e2⟩ := cellsq HR3.out.2.2
  have u0 := unfrozen (i := 0) HR3.out.2.2
  have u1 := unfrozen (i := 1) HR3.out.2.2
  have u2 := unfrozen (i := 2) HR3.out.2.2
  go_wp2_with fail
  all_goals first
    | (exfalso; exact HNZ.out (by assumption) (by assumption) (by assumption) (by assumption))
    | (subst_vars
       have q0 := fun (x : Int) (y : ByteArray) (z : Int) => (cellsq (res91 (k := x) (s := y) (d := z) HR3.out.2.2)).1
       have q1 := fun (x : Int) (y : ByteArray) (z : Int) => (cellsq (res91 (k := x) (s := y) (d := z) HR3.out.2.2)).2.1
       have q2 := fun (x : Int) (y : ByteArray) (z : Int) => (cellsq (res91 (k := x) (s := y) (d := z) HR3.out.2.2)).2.2
       have ho := fun (x y z : Value) => only_res V3 W.heap.size x y z
       refine ⟨rfl, .agg #[.int .i64 _, .string s', .int .i64 _], ?_, rfl, ((ho _ _ _).block _ (lt_of_heap HR3.out.1) (Ne.symm HH.out.2.1)).trans HR3.out.1, ((ho _ _ _).block _ (lt_of_heap HR3.out.2.1) (Ne.symm HH.out.2.2)).trans HR3.out.2.1, only_new HO3.out (ho _ _ _) (Nat.le_refl _)⟩
       simp [results, Try.f159, go_sem, q0, q1, q2])

set_option maxRecDepth 100000 in
set_option maxHeartbeats 8000000 in
theorem reader1_next (g1 g2 m L n cap b off : Nat) (k d k' d' yk yd : Int) (s s' ya : ByteArray) (W : World)
    (h1 : W.heap[g1]? = some (.cells #[.int .i64 k, .string s, .int .i64 d] 91 (0, 0))) (h2 : W.heap[g2]? = some (.cells #[.slice (some ⟨b, off, none⟩) (n + 1) cap] 77 (0, 0))) (h12 : g2 ≠ g1)
    (hsz : ∀ X, Calls Try.prog 142 #[.agg #[.int .i64 k, .string s, .int .i64 d]] X fun e W' => e = .returned (.int .i64 (L : Int)) ∧ Below X.heap.size X W')
    (hpt : ∀ X, Calls Try.prog 143 #[.agg #[.int .i64 k, .string s, .int .i64 d], .int .i64 (m : Int), .int .i64 (L : Int)] X fun e W' => e = .returned (.agg #[.int .i64 k', .string s', .int .i64 d']) ∧ Below X.heap.size X W')
    (hz1 : k' = 0) (hz2 : s'.toList = []) (hz3 : d' = 0) (hb : b < W.heap.size) (hb1 : b ≠ g1) (hb2 : b ≠ g2) (hcap : n + 1 ≤ cap) (pa' : Option Addr) (hpa : (if cap = 1 then some (⟨b, off, none⟩ : Addr) else some ⟨b, off + 3, none⟩) = pa')
    (hy0 : W.cell? ⟨b, off, none⟩ = some (.int .i64 yk)) (hy1 : W.cell? ⟨b, off + 1, none⟩ = some (.string ya)) (hy2 : W.cell? ⟨b, off + 2, none⟩ = some (.int .i64 yd)) :
    Calls Try.prog 159 #[.int .i64 (m : Int), .pointer (some ⟨g1, 0, none⟩), .pointer (some ⟨g2, 0, none⟩)] W fun e W' => e = .returned (.agg #[.int .i64 yk, .string ya, .int .i64 yd]) ∧
      W'.heap[g1]? = some (.cells #[.int .i64 yk, .string ya, .int .i64 yd] 91 (0, 0)) ∧ W'.heap[g2]? = some (.cells #[.slice pa' n (cap - 1)] 77 (0, 0)) ∧ Only (fun x => x = g1 ∨ x = g2) W W' := by
  have HSZ := hide hsz
  have HPT := hide hpt
  have HB := hide (And.intro hb (And.intro hb1 (And.intro hb2 (And.intro hcap (And.intro hy0 (And.intro hy1 hy2))))))
  clear hb hb1 hb2 hcap hy0 hy1 hy2
  have HPA := hide hpa
  clear hpa
  have HZ := hide (And.intro hz1 (And.intro hz2 hz3))
  clear hz1 hz2 hz3
  have hz := World.alloc_heap_new W (.cells #[.int .i64 0, .string ⟨#[]⟩, .int .i64 0] 91)
  have HSW : Hid (RS g1 g2 W.heap.size k s d (some ⟨b, off, none⟩) (n + 1) cap (W.alloc (.cells #[.int .i64 0, .string ⟨#[]⟩, .int .i64 0] 91)).drew) := hide ⟨(Below.heap_alloc W _ _ (lt_of_heap h1)).trans h1, (Below.heap_alloc W _ _ (lt_of_heap h2)).trans h2, hz⟩
  have HH := hide (And.intro h12 (And.intro (Nat.ne_of_gt (lt_of_heap h1)) (Nat.ne_of_gt (lt_of_heap h2))))
  clear hsz hpt h1 h2 h12 hz
  go_enter Try.func159, Try.ntmps159
  go_wp2_with fail
  refine heldC_startP 1 (S := RS g1 g2 W.heap.size k s d (some ⟨b, off, none⟩) (n + 1) cap) (L := #[true, true, true, true, true, false]) (fuel := 5) (by kernel_rfl) (by kernel_rfl) ?_
  refine heldC_take (i := 0) (oi := { dst := some 5, op := Op.load 91 (Operand.tmp 1), type := 91, pos := _, after := _, guard := none }) (v := _) rfl (by kernel_rfl) (by kernel_rfl) (by kernel_rfl) (fun _ _ _ h => h) (by rfl) (by intro w' hSw; obtain ⟨r0, r1, r2⟩ := cellsq hSw.1; go_simp; try with_reducible rfl) HSW.out (by kernel_rfl) ?_
  simp only [Act.put, List.setIfInBounds_toArray, List.set_cons_zero, List.set_cons_succ]
  refine heldC_take (i := 1) (oi := { dst := some 6, op := Op.move (Operand.tmp 0), type := 3, pos := _, after := _, guard := none }) (v := _) rfl (by kernel_rfl) (by kernel_rfl) (by kernel_rfl) (fun _ _ _ h => h) (by rfl) (by intro w' hSw; go_simp; try with_reducible rfl) HSW.out (by kernel_rfl) ?_
  simp only [Act.put, List.setIfInBounds_toArray, List.set_cons_zero, List.set_cons_succ]
  refine heldC_take (i := 2) (oi := { dst := some 7, op := Op.load 91 (Operand.tmp 1), type := 91, pos := _, after := _, guard := none }) (v := _) rfl (by kernel_rfl) (by kernel_rfl) (by kernel_rfl) (fun _ _ _ h => h) (by rfl) (by intro w' hSw; obtain ⟨r0, r1, r2⟩ := cellsq hSw.1; go_simp; try with_reducible rfl) HSW.out (by kernel_rfl) ?_
  simp only [Act.put, List.setIfInBounds_toArray, List.set_cons_zero, List.set_cons_succ]
  refine heldC_step (i := 3) (o := { dst := some 8, op := Op.call { callee := Callee.value (Operand.func 142), args := #[Operand.tmp 7], argTypes := #[91] }, type := 3, pos := _, after := _, guard := none }) (by kernel_rfl) rfl (by rfl) HSW.out (fun K hK => ?_)
  go_simp
  refine (HSZ.out _).mono ?_
  rintro e V1 ⟨rfl, hb1⟩
  replace HSW := hide (HSW.out.up hb1)
  have HO1 := hide ((Only.alloc (fun k => k = g1 ∨ k = g2) W _).trans (only_drew _ |>.trans (only_below hb1)))
  clear hb1
  refine hK.out _ _ ?_
  clear hK K
  try simp only [Act.put, List.setIfInBounds_toArray, List.set_cons_zero, List.set_cons_succ]
  refine heldC_step (i := 4) (o := { dst := some 9, op := Op.call { callee := Callee.value (Operand.func 143), args := #[Operand.tmp 5, Operand.tmp 6, Operand.tmp 8], argTypes := #[91, 3, 3] }, type := 91, pos := _, after := _, guard := none }) (by kernel_rfl) rfl (by rfl) HSW.out (fun K hK => ?_)
  go_simp
  refine (HPT.out _).mono ?_
  rintro e V2 ⟨rfl, hb2⟩
  replace HSW := hide (HSW.out.up hb2)
  have HO2 := hide (HO1.out.trans (only_below hb2))
  clear hb2 HO1
  refine hK.out _ _ ?_
  clear hK K
  try simp only [Act.put, List.setIfInBounds_toArray, List.set_cons_zero, List.set_cons_succ]
  refine heldC_cut (by kernel_rfl) HSW.out ?_
  refine any_last (i := 5) (by kernel_rfl) rfl (by rfl) (by kernel_rfl) ?_
  refine wp_store91 rfl rfl rfl HSW.out.1 fun V3 hq3 ho3 => ?_
  simp only [Act.put, List.setIfInBounds_toArray, List.set_cons_zero, List.set_cons_succ]
  have HR3 := hide (HSW.out.put HH.out.1 HH.out.2.1 hq3 ho3)
  have HO3 := hide (HO2.out.trans (ho3.mono fun x _ hx => Or.inl hx))
  clear ho3 HO2 hq3 HSW
  obtain ⟨r0, r1, r2⟩ := cellsq HR3.out.1
  have c2 : V3.cell? ⟨g2, 0, none⟩ = some (.slice (some ⟨b, off, none⟩) (n + 1) cap) := by rw [Joins.cell_of_block HR3.out.2.1]; rfl
  obtain ⟨e0, e1, e2⟩ := cellsq HR3.out.2.2
  have u0 := unfrozen (i := 0) HR3.out.2.2
  have u1 := unfrozen (i := 1) HR3.out.2.2
  have u2 := unfrozen (i := 2) HR3.out.2.2
  have hz1 := HZ.out.1
  have hz2 := HZ.out.2.1
  have hz3 := HZ.out.2.2
  have hn0 : 0 < n + 1 := Nat.succ_pos _
  go_wp2_with fail
  replace HZ := HZ.out
  clear hz1 hz2 hz3 r0 r1 r2 e0 e1 e2 u0 u1 u2 c2
  have HY : Hid (V3.cell? ⟨b, off, none⟩ = some (.int .i64 yk) ∧ V3.cell? ⟨b, off + 1, none⟩ = some (.string ya) ∧ V3.cell? ⟨b, off + 2, none⟩ = some (.int .i64 yd)) := hide (by
    have hblk := HO3.out.block b HB.out.1 (by rintro (h | h); exact HB.out.2.1 h; exact HB.out.2.2.1 h)
    obtain ⟨_, _, _, _, y0, y1, y2⟩ := HB.out
    refine ⟨?_, ?_, ?_⟩ <;> (simp only [World.cell?] at *; rw [hblk]; assumption))
  replace HSW := hide (And.intro HR3.out.2.1 HY.out)
  refine heldC_startP 1 (S := fun w' => w'.heap[g2]? = some (.cells #[.slice (some ⟨b, off, none⟩) (n + 1) cap] 77 (0, 0)) ∧ w'.cell? ⟨b, off, none⟩ = some (.int .i64 yk) ∧ w'.cell? ⟨b, off + 1, none⟩ = some (.string ya) ∧ w'.cell? ⟨b, off + 2, none⟩ = some (.int .i64 yd)) (L := #[true, true, true, true, true, true, false]) (fuel := 6) (by kernel_rfl) (by kernel_rfl) ?_
  refine heldC_take (i := 0) (oi := { dst := some 18, op := Op.load 77 (Operand.tmp 2), type := 77, pos := _, after := _, guard := none }) (v := _) rfl (by kernel_rfl) (by kernel_rfl) (by kernel_rfl) (fun _ _ _ h => h) (by rfl) (by intro w' hSw; have c2 : w'.cell? ⟨g2, 0, none⟩ = some (.slice (some ⟨b, off, none⟩) (n + 1) cap) := (by rw [Joins.cell_of_block hSw.1]; rfl); obtain ⟨r0, r1, r2⟩ := hSw.2; go_simp; try with_reducible rfl) HSW.out (by kernel_rfl) ?_
  simp only [Act.put, List.setIfInBounds_toArray, List.set_cons_zero, List.set_cons_succ]
  refine heldC_take (i := 1) (oi := { dst := some 19, op := Op.indexAddr 77 (Operand.tmp 18) (Operand.const (Value.int IntKind.i64 0)), type := 0, pos := _, after := _, guard := none }) (v := _) rfl (by kernel_rfl) (by kernel_rfl) (by kernel_rfl) (fun _ _ _ h => h) (by rfl) (by intro w' hSw; have c2 : w'.cell? ⟨g2, 0, none⟩ = some (.slice (some ⟨b, off, none⟩) (n + 1) cap) := (by rw [Joins.cell_of_block hSw.1]; rfl); obtain ⟨r0, r1, r2⟩ := hSw.2; go_simp; try with_reducible rfl) HSW.out (by kernel_rfl) ?_
  simp only [Act.put, List.setIfInBounds_toArray, List.set_cons_zero, List.set_cons_succ]
  refine heldC_take (i := 2) (oi := { dst := some 20, op := Op.load 91 (Operand.tmp 19), type := 91, pos := _, after := _, guard := none }) (v := _) rfl (by kernel_rfl) (by kernel_rfl) (by kernel_rfl) (fun _ _ _ h => h) (by rfl) (by intro w' hSw; have c2 : w'.cell? ⟨g2, 0, none⟩ = some (.slice (some ⟨b, off, none⟩) (n + 1) cap) := (by rw [Joins.cell_of_block hSw.1]; rfl); obtain ⟨r0, r1, r2⟩ := hSw.2; go_simp; try with_reducible rfl) HSW.out (by kernel_rfl) ?_
  simp only [Act.put, List.setIfInBounds_toArray, List.set_cons_zero, List.set_cons_succ]
  refine heldC_take (i := 3) (oi := { dst := some 21, op := Op.load 77 (Operand.tmp 2), type := 77, pos := _, after := _, guard := none }) (v := _) rfl (by kernel_rfl) (by kernel_rfl) (by kernel_rfl) (fun _ _ _ h => h) (by rfl) (by intro w' hSw; have c2 : w'.cell? ⟨g2, 0, none⟩ = some (.slice (some ⟨b, off, none⟩) (n + 1) cap) := (by rw [Joins.cell_of_block hSw.1]; rfl); obtain ⟨r0, r1, r2⟩ := hSw.2; go_simp; try with_reducible rfl) HSW.out (by kernel_rfl) ?_
  simp only [Act.put, List.setIfInBounds_toArray, List.set_cons_zero, List.set_cons_succ]
  refine heldC_take (i := 4) (oi := { dst := some 22, op := Op.slice 77 (Operand.tmp 21) (some (Operand.const (Value.int IntKind.i64 1))) none none, type := 77, pos := _, after := _, guard := none }) (v := _) rfl (by kernel_rfl) (by kernel_rfl) (by kernel_rfl) (fun _ _ _ h => h) (by rfl) (by intro w' hSw; have c2 : w'.cell? ⟨g2, 0, none⟩ = some (.slice (some ⟨b, off, none⟩) (n + 1) cap) := (by rw [Joins.cell_of_block hSw.1]; rfl); obtain ⟨r0, r1, r2⟩ := hSw.2; have i1 : (1 : Int) ≤ (n : Int) + 1 := (by omega); have ip := HPA.out; go_simp; try with_reducible rfl) HSW.out (by kernel_rfl) ?_
  simp only [Act.put, List.setIfInBounds_toArray, List.set_cons_zero, List.set_cons_succ]
  refine heldC_step (i := 5) (o := { dst := none, op := Op.store 91 (Operand.tmp 1) (Operand.tmp 20), type := 0, pos := _, after := _, guard := none }) (by kernel_rfl) rfl (by rfl) HSW.out (fun K hK => ?_)
  refine wp_store91 rfl rfl rfl HR3.out.1 fun V4 hq4 ho4 => ?_
  replace ho4 : Only (fun x => x = g1) V3 V4 := (only_drew V3).trans ho4
  replace HR3 := hide (HR3.out.put HH.out.1 HH.out.2.1 hq4 ho4)
  replace HY := hide (And.intro (cell_other ho4 HB.out.2.1 HY.out.1) (And.intro (cell_other ho4 HB.out.2.1 HY.out.2.1) (cell_other ho4 HB.out.2.1 HY.out.2.2)))
  replace HSW := hide (And.intro HR3.out.2.1 HY.out)
  have HO4 := hide (HO3.out.trans (ho4.mono fun x _ hx => Or.inl hx))
  clear hq4 ho4 HO3
  refine hK.out _ _ ?_
  clear hK K
  try simp only [Act.put, List.setIfInBounds_toArray, List.set_cons_zero, List.set_cons_succ]
  refine heldC_cut (by kernel_rfl) HSW.out ?_
  refine any_last (i := 6) (by kernel_rfl) rfl (by rfl) (by kernel_rfl) ?_
  refine wp_store77 rfl rfl rfl HR3.out.2.1 fun V5 hq5 ho5 => ?_
  simp only [Act.put, List.setIfInBounds_toArray, List.set_cons_zero, List.set_cons_succ]
  have HR5 := hide (show RS g1 g2 W.heap.size yk ya yd pa' n (cap - 1) V5 from ⟨(ho5.block _ (lt_of_heap HR3.out.1) (Ne.symm HH.out.1)).trans HR3.out.1, hq5, (ho5.block _ (lt_of_heap HR3.out.2.2) HH.out.2.2).trans HR3.out.2.2⟩)
  have HO5 := hide (HO4.out.trans (ho5.mono fun x _ hx => Or.inr hx))
  clear ho5 HO4 hq5 HSW HY HR3
  obtain ⟨r0, r1, r2⟩ := cellsq HR5.out.1
  obtain ⟨e0, e1, e2⟩ := cellsq HR5.out.2.2
  have u0 := unfrozen (i := 0) HR5.out.2.2
  have u1 := unfrozen (i := 1) HR5.out.2.2
  have u2 := unfrozen (i := 2) HR5.out.2.2
  go_wp2_with fail
  obtain ⟨q0, q1, q2⟩ := cellsq (res91 (k := yk) (s := ya) (d := yd) HR5.out.2.2)
  have ho := only_res V5 W.heap.size (.int .i64 yk) (.string ya) (.int .i64 yd)
  refine ⟨rfl, .agg #[.int .i64 yk, .string ya, .int .i64 yd], ?_, rfl, (ho.block _ (lt_of_heap HR5.out.1) (Ne.symm HH.out.2.1)).trans HR5.out.1, (ho.block _ (lt_of_heap HR5.out.2.1) (Ne.symm HH.out.2.2)).trans HR5.out.2.1, only_new HO5.out ho (Nat.le_refl _)⟩
  simp [results, Try.f159, go_sem, q0, q1, q2]

end Go.Proofs.Ytpmijaplkbmbiaa.E
