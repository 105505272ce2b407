/- journal: the reference's three. -/
import Derived.Test.YtolidhjffminkaaJL
namespace Go.Proofs.Ytolidhjffminkaa.J
open Go.Proofs.Ytolidhjffminkaa Go.RowKit Go.By
set_option linter.unusedVariables false
set_option linter.unusedSimpArgs false
attribute [local go_sem ↓] Go.wp_at_zero Go.wp_at_succ

/-- The reference's journal, as a value. -/
def rcs (u : Option Addr) (n cap : Nat) (base most : Int) : Array Value := #[.slice u n cap, .int .i64 base, .int .i64 most]
def RBox (W : World) (b : Nat) (u : Option Addr) (n cap : Nat) (base most : Int) : Prop := W.heap[b]? = some (.cells #[.slice u n cap, .int .i64 base, .int .i64 most] 28 (0, 0))
theorem RBox.cells {W : World} {b : Nat} {u : Option Addr} {n cap : Nat} {base most : Int} (h : RBox W b u n cap base most) : W.cell? ⟨b, 0, none⟩ = some (.slice u n cap) ∧ W.cell? ⟨b, 1, none⟩ = some (.int .i64 base) ∧ W.cell? ⟨b, 2, none⟩ = some (.int .i64 most) ∧ W.frozen? ⟨b, 0, none⟩ = false ∧ W.frozen? ⟨b, 1, none⟩ = false ∧ W.frozen? ⟨b, 2, none⟩ = false :=
  ⟨by rw [Joins.cell_of_block h]; rfl, by rw [Joins.cell_of_block h]; rfl, by rw [Joins.cell_of_block h]; rfl, Joins.unfrozen_of_block h 0, Joins.unfrozen_of_block h 1, Joins.unfrozen_of_block h 2⟩
theorem rbox_new (w : World) (u : Option Addr) (n cap : Nat) (base most : Int) : RBox (w.alloc (.cells #[.slice u n cap, .int .i64 base, .int .i64 most] 28)) w.heap.size u n cap base most ∧ Below w.heap.size w (w.alloc (.cells #[.slice u n cap, .int .i64 base, .int .i64 most] 28)) :=
  ⟨World.alloc_heap_new w _, (Below.refl _ _).alloc (Nat.le_refl _) _⟩

set_option maxHeartbeats 1000000 in
theorem rsince_old (at_ : Int) (u : Option Addr) (n cap : Nat) (base most : Int) (w : World) (h : at_ < base) :
    Calls Try.prog 15 #[.agg #[.slice u n cap, .int .i64 base, .int .i64 most], .int .i64 at_] w fun e W' => e = .returned (.tuple #[.slice none 0 0, .int .i64 160]) ∧ Below w.heap.size w W' := by
  have HB := hide (rbox_new w u n cap base most)
  obtain ⟨c0, c1, c2, f0, f1, f2⟩ := HB.out.1.cells
  go_enter Try.func15, Try.ntmps15
  go_wp2
  go_ret2
  exact ⟨rfl, HB.out.2⟩
set_option maxHeartbeats 1000000 in
theorem rsince_ahead (at_ : Int) (u : Option Addr) (n cap : Nat) (base most : Int) (w : World) (h : ¬ at_ < base) (h2 : (n : Int) < at_) :
    Calls Try.prog 15 #[.agg #[.slice u n cap, .int .i64 base, .int .i64 most], .int .i64 at_] w fun e W' => e = .returned (.tuple #[.slice none 0 0, .int .i64 161]) ∧ Below w.heap.size w W' := by
  have HB := hide (rbox_new w u n cap base most)
  obtain ⟨c0, c1, c2, f0, f1, f2⟩ := HB.out.1.cells
  go_enter Try.func15, Try.ntmps15
  go_wp2
  go_ret2
  exact ⟨rfl, HB.out.2⟩
set_option maxHeartbeats 1000000 in
theorem rsince_ok (k : Nat) (u : Option Addr) (n cap : Nat) (base most : Int) (w : World) (h : ¬ (k : Int) < base) (h2 : k ≤ n) :
    Calls Try.prog 15 #[.agg #[.slice u n cap, .int .i64 base, .int .i64 most], .int .i64 (k : Int)] w fun e W' => e = .returned (.tuple #[.slice (from_ u cap k) (n - k) (cap - k), .int .i64 0]) ∧ Below w.heap.size w W' := by
  have HB := hide (rbox_new w u n cap base most)
  have hs2 := slice_l26 u n cap k h2
  have h3 : ¬ (n : Int) < (k : Int) := by omega
  generalize n - k = d at *
  generalize cap - k = d2 at *
  generalize from_ u cap k = u2 at *
  obtain ⟨c0, c1, c2, f0, f1, f2⟩ := HB.out.1.cells
  go_enter Try.func15, Try.ntmps15
  go_wp2
  go_ret2
  exact ⟨rfl, HB.out.2⟩

theorem rset {W : World} {b : Nat} {x y z x0 y0 z0 : Value} (h : W.heap[b]? = some (.cells #[x0, y0, z0] 28 (0, 0))) : (((W.setCell ⟨b, 0, none⟩ x).setCell ⟨b, 1, none⟩ y).setCell ⟨b, 2, none⟩ z).heap[b]? = some (.cells #[x, y, z] 28 (0, 0)) := by
  have a0 := Joins.block_setCell (i := 0) h x
  have a1 := Joins.block_setCell (i := 1) a0 y
  have a2 := Joins.block_setCell (i := 2) a1 z
  simpa using a2
theorem results_ct {P : Program} {fn : Func} {p u : Tmp} {ty : TypeId} (h : fn.results = #[.cell p ty, .tmp u]) (tmps : Array Value) (w : World) (g : Nat) (t : TypeId) (cs : Array Value) (fr : Nat × Nat) (d : TypeDesc)
    (hp : tmps.getD p undef = .pointer (some ⟨g, 0, none⟩)) (hg : w.heap[g]? = some (.cells cs t fr))
    (hu : P.underlying ty = some d) (hd : (match d with | .struct _ | .array _ _ => true | _ => false) = true) (hi : (P.info? ty).map (·.size) = some cs.size) :
    (results fn tmps).run P w = .ok (.tuple #[.agg cs, tmps.getD u undef]) w := by
  rw [results_cell_tmp h, hp]
  simp [asAddr, run_loadVar_row w g t ty cs fr d hg hu hd hi, Result.andThen]
theorem results_ctt {P : Program} {fn : Func} {p u v : Tmp} {ty : TypeId} (h : fn.results = #[.cell p ty, .tmp u, .tmp v]) (tmps : Array Value) (w : World) (g : Nat) (t : TypeId) (cs : Array Value) (fr : Nat × Nat) (d : TypeDesc)
    (hp : tmps.getD p undef = .pointer (some ⟨g, 0, none⟩)) (hg : w.heap[g]? = some (.cells cs t fr))
    (hu : P.underlying ty = some d) (hd : (match d with | .struct _ | .array _ _ => true | _ => false) = true) (hi : (P.info? ty).map (·.size) = some cs.size) :
    (results fn tmps).run P w = .ok (.tuple #[.agg cs, tmps.getD u undef, tmps.getD v undef]) w := by
  have hp' : tmps[p]?.getD undef = .pointer (some ⟨g, 0, none⟩) := by simpa using hp
  simp [results, h, hp', asAddr, run_loadVar_row w g t ty cs fr d hg hu hd hi, Sem.run_bind, Result.andThen]
/-- The box of what came, and the result's. -/
def Box2 (w : World) (u : Option Addr) (n cap : Nat) (base most : Int) (W : World) : Prop := Below w.heap.size w W ∧ W.heap[w.heap.size]? = some (.cells #[.slice u n cap, .int .i64 base, .int .i64 most] 28 (0, 0)) ∧ W.heap[w.heap.size + 1]? = some (.cells #[.slice none 0 0, .int .i64 0, .int .i64 0] 28 (0, 0))
theorem box2_new (w : World) (u : Option Addr) (n cap : Nat) (base most : Int) : Box2 w u n cap base most ((w.alloc (.cells #[.slice u n cap, .int .i64 base, .int .i64 most] 28)).alloc (.cells #[.slice none 0 0, .int .i64 0, .int .i64 0] 28)) := by
  refine ⟨((Below.refl _ w).alloc (Nat.le_refl _) _).alloc (by simp) _, (Below.heap_alloc _ _ _ (by simp)).trans (World.alloc_heap_new w _), ?_⟩
  have := World.alloc_heap_new (w.alloc (.cells #[.slice u n cap, .int .i64 base, .int .i64 most] 28)) (.cells #[.slice none 0 0, .int .i64 0, .int .i64 0] 28)
  rw [World.size_alloc] at this; exact this
theorem Box2.cells {w W : World} {u : Option Addr} {n cap : Nat} {base most : Int} (h : Box2 w u n cap base most W) : W.cell? ⟨w.heap.size, 0, none⟩ = some (.slice u n cap) ∧ W.cell? ⟨w.heap.size, 1, none⟩ = some (.int .i64 base) ∧ W.cell? ⟨w.heap.size, 2, none⟩ = some (.int .i64 most) ∧ W.frozen? ⟨w.heap.size, 0, none⟩ = false ∧ W.frozen? ⟨w.heap.size, 1, none⟩ = false ∧ W.frozen? ⟨w.heap.size, 2, none⟩ = false :=
  RBox.cells h.2.1
theorem Box2.cells2 {w W : World} {u : Option Addr} {n cap : Nat} {base most : Int} (h : Box2 w u n cap base most W) : W.cell? ⟨w.heap.size + 1, 0, none⟩ = some (.slice none 0 0) ∧ W.cell? ⟨w.heap.size + 1, 1, none⟩ = some (.int .i64 0) ∧ W.cell? ⟨w.heap.size + 1, 2, none⟩ = some (.int .i64 0) ∧ W.frozen? ⟨w.heap.size + 1, 0, none⟩ = false ∧ W.frozen? ⟨w.heap.size + 1, 1, none⟩ = false ∧ W.frozen? ⟨w.heap.size + 1, 2, none⟩ = false :=
  RBox.cells h.2.2

theorem res_new (w : World) (o : Obj) (cs : Array Value) : ((w.alloc o).alloc (.cells cs 28)).heap[w.heap.size + 1]? = some (.cells cs 28 (0, 0)) := by
  have := World.alloc_heap_new (w.alloc o) (.cells cs 28)
  rw [World.size_alloc] at this; exact this
theorem res_below (w : World) (o o2 : Obj) : Below w.heap.size w ((w.alloc o).alloc o2) := ((Below.refl _ w).alloc (Nat.le_refl _) _).alloc (by simp) _

set_option maxHeartbeats 1000000 in
theorem rtrim_none (rev : Int) (u : Option Addr) (n cap : Nat) (base most : Int) (w : World) (h : (n : Int) < rev ∨ rev ≤ base) :
    Calls Try.prog 9 #[.agg #[.slice u n cap, .int .i64 base, .int .i64 most], .int .i64 rev] w fun e W' => e = .returned (.tuple #[.agg #[.slice u n cap, .int .i64 base, .int .i64 most], .int .i64 0]) ∧ Below w.heap.size w W' := by
  have HB := hide (box2_new w u n cap base most)
  obtain ⟨c0, c1, c2, f0, f1, f2⟩ := HB.out.cells
  obtain ⟨e0, e1, e2, g0, g1, g2⟩ := HB.out.cells2
  by_cases h1 : (n : Int) < rev
  · clear h
    go_enter Try.func9, Try.ntmps9
    go_wp2
    exact bodyPost_ret (results_ct rfl _ _ (w.heap.size + 1) 28 _ (0, 0) _ rfl (res_new w _ _) Try.underlying28 rfl (by kernel_rfl)) rfl ⟨rfl, res_below w _ _⟩
  · have h2 : rev ≤ base := by omega
    clear h
    go_enter Try.func9, Try.ntmps9
    go_wp2
    exact bodyPost_ret (results_ct rfl _ _ (w.heap.size + 1) 28 _ (0, 0) _ rfl (res_new w _ _) Try.underlying28 rfl (by kernel_rfl)) rfl ⟨rfl, res_below w _ _⟩
set_option maxHeartbeats 1000000 in
theorem rtrim_some (k base n cap : Nat) (u : Option Addr) (most : Int) (w : World) (hn : n ≤ 1000000) (h1 : 1 ≤ k) (h2 : base + k ≤ n) :
    Calls Try.prog 9 #[.agg #[.slice u n cap, .int .i64 (base : Int), .int .i64 most], .int .i64 ((base + k : Nat) : Int)] w fun e W' => e = .returned (.tuple #[.agg #[.slice u n cap, .int .i64 ((base + k : Nat) : Int), .int .i64 most], .int .i64 (k : Int)]) ∧ Below w.heap.size w W' := by
  have HB := hide (box2_new w u n cap base most)
  obtain ⟨c0, c1, c2, f0, f1, f2⟩ := HB.out.cells
  obtain ⟨e0, e1, e2, g0, g1, g2⟩ := HB.out.cells2
  have n1 : ¬ (n : Int) < ((base + k : Nat) : Int) := by omega
  have n2 : ¬ ((base + k : Nat) : Int) ≤ (base : Int) := by omega
  have n3 : IntKind.i64.wrap (((base + k : Nat) : Int) - (base : Int)) = (k : Int) := by rw [IntKind.wrap_i64]; omega
  generalize base + k = R at *
  go_enter Try.func9, Try.ntmps9
  go_wp2
  exact bodyPost_ret (results_ct rfl _ _ (w.heap.size + 1) 28 _ (0, 0) _ rfl (res_new w _ _) Try.underlying28 rfl (by kernel_rfl)) rfl ⟨rfl, res_below w _ _⟩

/-- 'append(row, src...)': a row that is owned from B on. -/
theorem wpList_append_row {w : World} {ops : Array Oper} {rest : List Oper} {o : Oper} {x0 : Act} {Q : Exit → Act → World → Prop} (hgd : o.guard = none) (s x : Operand)
    (ho : o.op = .call { callee := .builtin .append, args := #[s, x], argTypes := #[26, 26] })
    (B : Nat) (v : Value) (l l2 : List ByteArray) (ad : Option Addr) (n m cap : Nat) (hn : l.length = n) (hm : l2.length = m) (hown : w.ownsRow B 9 1 v n (l.map Value.string)) (hM : LS w ad l2) (hs : x0.eval s = v) (hx : x0.eval x = .slice ad m cap) (hB : B ≤ w.heap.size) (hsz : n + m ≤ 10000)
    (h : ∀ a' c' w', w'.ownsRow B 9 1 (.slice a' (n + m) c') (n + m) ((l ++ l2).map Value.string) → Below B w w' → wpList Try.prog ops Q rest (x0.put o.dst (.slice a' (n + m) c')) w') : wpList Try.prog ops Q (o :: rest) x0 w := by
  obtain ⟨i0, hi, hz0, hz1, hz2⟩ := info_parts Try.info9
  have ht := Try.underlying26
  have fin : ∀ v' w', w'.ownsRow B 9 1 v' (n + m) ((l ++ l2).map Value.string) → Below B w w' → wpList Try.prog ops Q rest (x0.put o.dst v') w' := by
    intro v' w' hr hb
    have hlen : (l ++ l2).length = n + m := by rw [List.length_append]; omega
    have hr2 : w'.ownsRow B 9 1 v' (l ++ l2).length ((l ++ l2).map Value.string) := by rw [hlen]; exact hr
    obtain ⟨a', c', hv, _, _⟩ := row_lc hr2
    rw [hlen] at hv
    subst hv
    exact h a' c' w' hr hb
  by_cases h0 : m = 0
  · have hm0 : l2 = [] := List.length_eq_zero_iff.1 (by omega)
    subst hm0
    subst h0
    have hsrc : Src Try.prog i0.size 26 (.slice ad 0 cap) 0 [] w := by
      cases ad with
      | none => exact Src.ofNil w ht cap
      | some y => exact Src.ofSlice w ht y 0 cap [] (by simp) (by simp) (by simp)
    have hown' : w.ownsRow B 9 1 v l.length (l.map Value.string) := by rw [hn]; exact hown
    obtain ⟨u, c, hv, hle, _⟩ := row_lc hown'
    rw [hn] at hv hle
    subst hv
    have hrun := run_append_nothing (P := Try.prog) w 26 26 o.type 9 i0 ht hi u n c hle (.slice ad 0 cap) hsrc
    refine wpList_plain hgd fun K hK' => ?_
    unfold Oper.wp
    simp [execOp, ho, resolve, invoke, builtin, hs, hx, hrun, Result.andThen]
    exact hK' _ _ (fin _ _ (by simpa using hown) (Below.refl _ _))
  · obtain ⟨b2, o2, rfl, hc2⟩ : ∃ b off, ad = some ⟨b, off, none⟩ ∧ ∀ i, i < l2.length → w.cell? ⟨b, off + i, none⟩ = some (.string (l2.getD i ⟨#[]⟩)) := by
      rcases hM with rfl | h1
      · simp at hm; omega
      · exact h1
    have news : ∀ i v, (l2.map Value.string)[i]? = some v → w.cell? ((⟨b2, o2, none⟩ : Addr).add i) = some v := by
      intro i v hv
      have hi : i < l2.length := by
        rcases Nat.lt_or_ge i l2.length with h | h
        · exact h
        · simp [h] at hv
      rw [add_eq, hc2 i hi]
      simp [hi] at hv
      simp [List.getD, hi, hv]
    refine wpList_append_lies w hgd s x 26 ho B 9 i0 (.string ⟨#[]⟩) 1 16 ht hi hz0 hz1 hz2 rfl (by decide) v n (l.map Value.string) hs hown ⟨b2, o2, none⟩ m cap (l2.map Value.string) hx (by simp [hm]) news (by intro u hu; obtain ⟨c, _, rfl⟩ := List.mem_map.1 hu; rfl) (by omega) (by unfold maxLen; omega) (by omega) hB w.heap.size rfl ?_
    intro g c' w' hr hgr hat hlt
    exact fin _ _ (by rw [List.map_append]; exact hr) ((Below.refl B w).grown hgr hB fun q hq => (ownBlock_lt hown hq).1)

set_option maxHeartbeats 1000000 in
theorem rappend_full (x : ByteArray) (u : Option Addr) (n cap base : Nat) (most : Int) (w : World) (hn : n ≤ 1000000) (hb : base ≤ n) (h : most ≤ (n : Int) - (base : Int)) :
    Calls Try.prog 11 #[.agg #[.slice u n cap, .int .i64 (base : Int), .int .i64 most], .string x] w fun e W' => e = .returned (.tuple #[.agg #[.slice u n cap, .int .i64 (base : Int), .int .i64 most], .int .i64 0, .int .i64 31]) ∧ Below w.heap.size w W' := by
  have HB := hide (box2_new w u n cap base most)
  obtain ⟨c0, c1, c2, f0, f1, f2⟩ := HB.out.cells
  obtain ⟨e0, e1, e2, g0, g1, g2⟩ := HB.out.cells2
  have n3 : IntKind.i64.wrap ((n : Int) - (base : Int)) = (n : Int) - (base : Int) := by rw [IntKind.wrap_i64]; omega
  go_enter Try.func11, Try.ntmps11
  go_wp2
  exact bodyPost_ret (results_ctt rfl _ _ (w.heap.size + 1) 28 _ (0, 0) _ rfl (res_new w _ _) Try.underlying28 rfl (by kernel_rfl)) rfl ⟨rfl, res_below w _ _⟩

theorem empty_row (W : World) (B : Nat) (hB : B ≤ W.heap.size) : (W.alloc (.cells #[] 9)).ownsRow B 9 1 (.slice (some ⟨W.heap.size, 0, none⟩) 0 0) 0 [] :=
  ⟨rfl, .inr ⟨W.heap.size, 0, #[], rfl, hB, World.alloc_heap_new W _, by simp, by simp, by simp, by simp⟩⟩

theorem Box2.up {w W Y : World} {u : Option Addr} {n cap : Nat} {base most : Int} (h : Box2 w u n cap base most W) (hb : Below (w.heap.size + 1 + 1) W Y) : Box2 w u n cap base most Y :=
  ⟨h.1.trans (hb.mono (by omega)), (hb.block _ (by omega)).trans h.2.1, (hb.block _ (by omega)).trans h.2.2⟩
theorem box2_size (w : World) (o o2 : Obj) : ((w.alloc o).alloc o2).heap.size = w.heap.size + 1 + 1 := by simp
theorem first_row (w : World) (o o2 : Obj) : (((w.alloc o).alloc o2).alloc (.cells #[] 9)).ownsRow (w.heap.size + 1 + 1) 9 1 (.slice (some ⟨w.heap.size + 1 + 1, 0, none⟩) 0 0) 0 (([] : List ByteArray).map Value.string) := by
  have := empty_row ((w.alloc o).alloc o2) (w.heap.size + 1 + 1) (by simp)
  rw [box2_size] at this
  exact this
theorem Box2.put {w W : World} {u u2 : Option Addr} {n cap n2 cap2 : Nat} {base most : Int} (h : Box2 w u n cap base most W) : Box2 w u2 n2 cap2 base most (W.setCell ⟨w.heap.size, 0, none⟩ (.slice u2 n2 cap2)) :=
  ⟨h.1.setCell (p := ⟨w.heap.size, 0, none⟩) (Nat.le_refl _) _, by have := Joins.block_setCell (i := 0) h.2.1 (.slice u2 n2 cap2); simpa using this, (Below.heap_setCell W _ _ (w.heap.size + 1) (by simp)).trans h.2.2⟩
theorem LB.set {B : Nat} {W : World} {a : Option Addr} {l : List ByteArray} (h : LB B W a l) (p i : Nat) (y : Value) (hp : p < B) : LB B (W.setCell ⟨p, i, none⟩ y) a l :=
  h.keep (by simp) fun b h1 _ _ => Below.heap_setCell W _ _ b (by show b ≠ p; omega)
theorem LB.low {B B2 : Nat} {W : World} {a : Option Addr} {l : List ByteArray} (h : LB B W a l) (hB : B2 ≤ B) : LB B2 W a l := h.elim .inl fun ⟨b, off, e, h1, h2, hc⟩ => .inr ⟨b, off, e, by omega, h2, hc⟩
theorem fin11 {w W : World} {base most : Int} {n : Nat} {x : ByteArray} {L : List ByteArray} {a6 : Option Addr} {c6 : Nat} (hB : Box2 w a6 (n + 1) c6 base most W) (hL : LB (w.heap.size + 1 + 1) W a6 (L ++ [x])) (hc : n + 1 ≤ c6) (a : Act)
    (h4 : a.tmps.getD 4 undef = .pointer (some ⟨w.heap.size + 1, 0, none⟩)) (h5 : a.tmps.getD 5 undef = .int .i64 ((n : Int) + 1)) (h6 : a.tmps.getD 6 undef = .int .i64 0) (hd : a.defers = []) :
    bodyPost Try.prog Try.f11 (fun e W' => (∃ u' c', e = .returned (.tuple #[.agg #[.slice u' (n + 1) c', .int .i64 base, .int .i64 most], .int .i64 ((n + 1 : Nat) : Int), .int .i64 0]) ∧ n + 1 ≤ c' ∧ LB w.heap.size W' u' (L ++ [x])) ∧ Below w.heap.size w W') .ret a (((W.setCell ⟨w.heap.size + 1, 0, none⟩ (.slice a6 (n + 1) c6)).setCell ⟨w.heap.size + 1, 1, none⟩ (.int .i64 base)).setCell ⟨w.heap.size + 1, 2, none⟩ (.int .i64 most)).drew := by
  obtain ⟨tm, dfr⟩ := a
  dsimp only at h4 h5 h6 hd
  subst hd
  refine bodyPost_ret (results_ctt rfl _ _ (w.heap.size + 1) 28 #[.slice a6 (n + 1) c6, .int .i64 base, .int .i64 most] (0, 0) _ h4 (rset hB.2.2) Try.underlying28 rfl (by kernel_rfl)) rfl ⟨⟨a6, c6, by rw [h5, h6]; rfl, hc, (((hL.set _ 0 _ (by omega)).set _ 1 _ (by omega)).set _ 2 _ (by omega)).low (by omega)⟩, ?_⟩
  exact (fun h => below_drewN h 1) <| ((hB.1.setCell (p := ⟨w.heap.size + 1, 0, none⟩) (Nat.le_succ _) _).setCell (p := ⟨w.heap.size + 1, 1, none⟩) (Nat.le_succ _) _).setCell (p := ⟨w.heap.size + 1, 2, none⟩) (Nat.le_succ _) _
theorem row_ls_put {W : World} {B p n cap : Nat} {a : Option Addr} {l : List ByteArray} {y : Value} (hn : l.length = n) (h : W.ownsRow B 9 1 (.slice a n cap) n (l.map Value.string)) (hp : p < B) : LB B (W.setCell ⟨p, 0, none⟩ y) a l ∧ n ≤ cap := by
  subst hn
  obtain ⟨a2, c2, e, hc, hl⟩ := row_lc h
  cases e
  refine ⟨hl.set p 0 y hp, hc⟩
set_option maxHeartbeats 1000000 in
theorem rappend_ok (x : ByteArray) (u : Option Addr) (L : List ByteArray) (n cap base : Nat) (most : Int) (w : World) (hl : L.length = n) (hL : LS w u L) (hn : n ≤ 1000) (hb : base ≤ n) (h : ¬ most ≤ (n : Int) - (base : Int)) :
    Calls Try.prog 11 #[.agg #[.slice u n cap, .int .i64 (base : Int), .int .i64 most], .string x] w fun e W' => (∃ u' c', e = .returned (.tuple #[.agg #[.slice u' (n + 1) c', .int .i64 (base : Int), .int .i64 most], .int .i64 ((n + 1 : Nat) : Int), .int .i64 0]) ∧ n + 1 ≤ c' ∧ LB w.heap.size W' u' (L ++ [x])) ∧ Below w.heap.size w W' := by
  have HB := hide (box2_new w u n cap base most)
  have HR0 := hide (first_row w (.cells #[.slice u n cap, .int .i64 base, .int .i64 most] 28) (.cells #[.slice none 0 0, .int .i64 0, .int .i64 0] 28))
  have HB3 := hide (HB.out.up ((Below.refl (w.heap.size + 1 + 1) _).alloc (by simp) (.cells #[] 9)))
  have HL3 := hide ((hL.block HB.out.1).block ((Below.refl _ _).alloc (Nat.le_refl _) (.cells #[] 9)))
  have HS3 := hide (show w.heap.size + 1 + 1 ≤ ((((w.alloc (.cells #[.slice u n cap, .int .i64 base, .int .i64 most] 28)).alloc (.cells #[.slice none 0 0, .int .i64 0, .int .i64 0] 28)).alloc (.cells #[] 9)).heap.size) by simp)
  have Hl := hide hl
  obtain ⟨c0, c1, c2, f0, f1, f2⟩ := HB.out.cells
  obtain ⟨e0, e1, e2, g0, g1, g2⟩ := HB.out.cells2
  have n3 : IntKind.i64.wrap ((n : Int) - (base : Int)) = (n : Int) - (base : Int) := by rw [IntKind.wrap_i64]; omega
  clear hL hl
  go_enter Try.func11, Try.ntmps11
  go_wp2_with (first
    | (at_builtin; refine wpList_append_row rfl (.tmp 17) (.tmp 19) rfl (w.heap.size + 1 + 1) _ [] L u 0 n cap rfl Hl.out HR0.out HL3.out rfl rfl HS3.out (by omega) ?_; intro a4 c4 W4 hr hb4; simp only [Nat.zero_add, List.nil_append] at hr ⊢; have HR4 := hide hr; have HB4 := hide (HB3.out.up hb4); have HS4 := hide (Nat.le_trans HS3.out hb4.size); obtain ⟨k0, k1, k2, _, _, _⟩ := HB4.out.cells; clear hr hb4 HR0 HB3 HL3)
    | (at_builtin; refine wpList_append_row rfl (.tmp 20) (.tmp 22) rfl (w.heap.size + 1 + 1) _ L [x] (some ⟨W4.heap.size, 0, none⟩) n 1 1 Hl.out rfl (World.ownsRow.alloc HR4.out _) (one_ls W4 x) rfl rfl (by have := HS4.out; simp; omega) (by omega) ?_; intro a6 c6 W6 hr hb6; have HR6 := hide hr; have HB6 := hide ((HB4.out.up ((Below.refl _ W4).alloc HS4.out _)).up hb6); obtain ⟨m0, m1, m2, q0, q1, q2⟩ := HB6.out.cells; obtain ⟨s0, s1, s2, t0, t1, t2⟩ := HB6.out.cells2; clear hr hb6 HR4 HB4 k0 k1 k2))
  have HB7 := hide (HB6.out.put (u2 := a6) (n2 := n + 1) (cap2 := c6))
  have HL7 := hide (row_ls_put (p := w.heap.size) (y := .slice a6 (n + 1) c6) (by rw [List.length_append, Hl.out]; rfl) HR6.out (by omega))
  clear m0 m1 m2 q0 q1 q2 s0 s1 s2 t0 t1 t2 HB6 HR6 HB c0 c1 c2 f0 f1 f2 e0 e1 e2 g0 g1 g2 HS4 HS3
  generalize W6.setCell ⟨w.heap.size, 0, none⟩ (.slice a6 (n + 1) c6) = W7 at *
  obtain ⟨m0, m1, m2, q0, q1, q2⟩ := HB7.out.cells
  obtain ⟨s0, s1, s2, t0, t1, t2⟩ := HB7.out.cells2
  go_region_with (fail)
  all_goals (go_wp2_with fail)
  all_goals (refine fin11 HB7.out HL7.out.1 HL7.out.2 _ ?_ ?_ ?_ ?_ <;> rfl)
end Go.Proofs.Ytolidhjffminkaa.J
