/- What undoes an edit: the program's way. -/
import Derived.Test.YtpmijaplkbmbiaaU3
import Derived.Test.YtpmijaplkbmbiaaX6
import Derived.Test.YtpmijaplkbmbiaaX4
import Derived.OwnWalkIn
import Derived.Laws.OwnMore
namespace Go.Proofs.Ytpmijaplkbmbiaa.E
open Go.Proofs.Ytpmijaplkbmbiaa Go.RowKit Go.By Go.Shelf
set_option linter.unusedVariables false
set_option linter.unusedSimpArgs false
attribute [local go_sem] Oper.semAt_some

/-- append onto a slice that the call owns, where there is room: it lies where it lay. -/
theorem wp_append_fits {P : Program} {o : Oper} {a : Act} {w : World} {K : Act → World → Prop} {Q : Exit → Act → World → Prop} (hgd : o.guard = none) (sl x : Operand) (t : TypeId)
    (ho : o.op = .call { callee := .builtin .append, args := #[sl, x], argTypes := #[t, t] })
    (base : Nat) (e : TypeId) (i : TypeInfo) (size : Nat) (ht : P.underlying t = some (.slice e)) (hi : P.info? e = some i) (hsize : i.size = size)
    (g n cap : Nat) (xs : List Value) (hs : a.eval sl = .slice (some ⟨g, 0, none⟩) n cap) (hown : w.ownsRow base e size (.slice (some ⟨g, 0, none⟩) n cap) n xs)
    (ad : Addr) (m c : Nat) (news : List Value) (hx : a.eval x = .slice (some ad) m c) (hl : news.length = m * size) (hnews : ∀ j u, news[j]? = some u → w.cell? (ad.add j) = some u) (h1 : ∀ u ∈ news, u.oneCell' = true)
    (hroom : n + m ≤ cap)
    (h : ∀ w', w'.ownsRow base e size (.slice (some ⟨g, 0, none⟩) (n + m) cap) (n + m) (xs ++ news) → w.grownBy w' (some g) → K (a.put o.dst (.slice (some ⟨g, 0, none⟩) (n + m) cap)) w') : Oper.wp P o a w K Q := by
  obtain ⟨w', hr, h2, h3⟩ := run_append_fits (P := P) (w := w) base t o.type e i size ht hi hsize g n cap xs hown ad m c news hl hnews h1 hroom
  unfold Oper.wp execOp
  simp only [ho, resolve, invoke, builtin, Sem.run_bind, Sem.run_pure, Result.andThen_ok, List.map_toArray, List.map_cons, List.map_nil, hs, hx, hr]
  exact h w' h2 h3

theorem load_at {o : Oper} {a : Act} {w : World} {p : Operand} {b : Nat} {v : Value} (ho : o.op = .load 77 p) (ha : a.eval p = .pointer (some ⟨b, 0, none⟩)) (hc : w.cell? ⟨b, 0, none⟩ = some v) :
    (execOp a.eval o).run Try.prog w = .ok (.value v) w := by
  unfold execOp
  rw [ho]
  simp only [ha]
  go_simp
theorem store_at {o : Oper} {a : Act} {w : World} {p x : Operand} {b : Nat} {v u : Value} (ho : o.op = .store 77 p x) (ha : a.eval p = .pointer (some ⟨b, 0, none⟩)) (hx : a.eval x = v) (hc : w.cell? ⟨b, 0, none⟩ = some u) (hf : w.frozen? ⟨b, 0, none⟩ = false) (hv : ∃ q n c, v = .slice q n c) :
    (execOp a.eval o).run Try.prog w = .ok .skip (w.setCell ⟨b, 0, none⟩ v) := by
  obtain ⟨q, n, c, rfl⟩ := hv
  unfold execOp
  rw [ho]
  simp only [ha, hx]
  go_simp
theorem build_at {o : Oper} {a : Act} {w : World} {j : Nat} {k d : Int} {s : ByteArray} (ho : o.op = .buildSlice 77 1 #[(0, .tmp j)]) (ha : a.tmps[j]?.getD undef = .agg #[.int .i64 k, .string s, .int .i64 d]) :
    (execOp a.eval o).run Try.prog w = .ok (.value (.slice (some ⟨w.heap.size, 0, none⟩) 1 1)) (w.alloc (.cells #[.int .i64 k, .string s, .int .i64 d] 91)) := by
  unfold execOp
  rw [ho]
  go_simp

def BA (a : Option Addr) (n cap : Nat) (s : ByteArray) (H b Bn G : Nat) (x : Pl) (q1 q2 : Nat) : Act := { tmps := #[.slice a n cap, .string s, undef, .pointer (some ⟨H, 0, none⟩), .slice none 0 0, .int .i64 0, .pointer (some ⟨b, 0, none⟩), .pointer (some ⟨q1, 0, none⟩), .pointer (some ⟨q2, 0, none⟩), .slice a n cap, .string s, .int .i64 (s.size : Int), .bool true, .bool false, .slice a n cap, .int .i64 (n : Int), .slice (some ⟨G, 0, none⟩) 0 n, .slice a n cap, .func (.func 137) #[] #[.pointer (some ⟨Bn, 0, none⟩)], .agg #[.int .i64 x.1, .int .i64 x.2.1], .agg #[.int .i64 x.2.2.keep, .string x.2.2.add, .int .i64 x.2.2.drop], undef, undef, undef, undef, undef, undef, undef, undef, undef, undef, undef, undef, undef, undef, undef, undef, undef, undef, undef, undef], defers := [] }
def BAx (a : Option Addr) (n cap : Nat) (s : ByteArray) (H b Bn G : Nat) (x : Pl) (a' : Act) (W : World) : Prop := ∃ q1 q2, a' = BA a n cap s H b Bn G x q1 q2 ∧ W.heap[q1]? = some (.cells #[.int .i64 x.1, .int .i64 x.2.1] 146 (0, 0)) ∧ W.heap[q2]? = some (.cells #[.int .i64 x.2.2.keep, .string x.2.2.add, .int .i64 x.2.2.drop] 91 (0, 0)) ∧ q2 ≠ G
theorem bax_own (a : Option Addr) (n cap : Nat) (s : ByteArray) (H b Bn G : Nat) (x : Pl) (a' : Act) : Own (fun (_ : Unit) W => BAx a n cap s H b Bn G x a' W) := fun _ X Y row h hg hrow => by
  obtain ⟨q1, q2, e, h1, h2, h3⟩ := h
  exact ⟨q1, q2, e, cells_keep h1 hg hrow, cells_keep h2 hg hrow, h3⟩

/-- Between two rounds of Back. -/
def BJ (w : World) (H b G : Nat) (s : ByteArray) (rs : List Rn) (pre : List Pl) (W : World) : Prop :=
  (OwnR W w.heap.size (.slice (some ⟨G, 0, none⟩) pre.length rs.length) (backS s (rs.take pre.length) 0) ∧ Boxed W b 77 (.slice (some ⟨G, 0, none⟩) pre.length rs.length) ∧ W.heap[H]? = some (.cells #[.string s] 9 (0, 0))) ∧ Below w.heap.size w W
theorem bj_own (w : World) (H b G : Nat) (s : ByteArray) (rs : List Rn) (B : Nat) (hB : w.heap.size ≤ B) : OwnT 146 B (BJ w H b G s rs) :=
  OwnT.and (ownT_of fun pre X Y h hk => ⟨h.1.kept fun q hq => by obtain ⟨cur, e⟩ := h.1.typ hq; rw [e]; exact hk _ _ _ _ (by decide) e, hk _ _ _ _ (by decide) h.2.1, hk _ _ _ _ (by decide) h.2.2⟩) (ownT_below (Nat.le_refl _) hB)

/-- What a round of Back reads. -/
def SB (H q1 q2 : Nat) (s : ByteArray) (i o k : Int) (xa : ByteArray) (d : Int) (w' : World) : Prop :=
  w'.heap[H]? = some (.cells #[.string s] 9 (0, 0)) ∧ w'.heap[q1]? = some (.cells #[.int .i64 i, .int .i64 o] 146 (0, 0)) ∧ w'.heap[q2]? = some (.cells #[.int .i64 k, .string xa, .int .i64 d] 91 (0, 0))

/-- Runs that lie there lie there still, behind a turn of a block that is no cells. -/
theorem came_put {W : World} {a : Option Addr} {rs : List Rn} {D : Nat} {x : Option (List Deferred)} (h : CameR W.heap.size W a rs) (hD : W.heap[D]? = some (.deferred x)) (o : Obj) : CameR (W.putObj D o).heap.size (W.putObj D o) a rs := by
  rcases h with h | ⟨b, off, e, hl, hc⟩
  · exact .inl h
  · cases rs with
    | nil => exact .inl rfl
    | cons r rs =>
      have hbD : b ≠ D := fun e => by
        have := (hc 0 (by simp)).1
        rw [e] at this
        simp [World.cell?, hD] at this
      have hk : ∀ j, (W.putObj D o).cell? ⟨b, j, none⟩ = W.cell? ⟨b, j, none⟩ := fun j => World.cell?_of_block (a := ⟨b, j, none⟩) (World.putObj_heap_other hbD)
      refine .inr ⟨b, off, e, by simpa [World.putObj] using hl, fun i hi => ?_⟩
      rw [hk, hk, hk]
      exact hc i hi

/-- What Back tells. -/
def backO (rs : List Rn) (s : ByteArray) : List Rn := if fitsR rs (s.size : Int) = true then backR s rs else []
def backE (rs : List Rn) (s : ByteArray) : Int := if fitsR rs (s.size : Int) = true then 0 else 60

set_option maxRecDepth 100000 in
set_option maxHeartbeats 8000000 in
theorem back_any (a : Option Addr) (cap : Nat) (rs : List Rn) (s : ByteArray) (w : World) (hS : CameR w.heap.size w a rs) (hl : rs.length ≤ 1000000) :
    Calls Try.prog 72 #[.slice a rs.length cap, .string s] w fun e W' => Gives2 w.heap.size w (backO rs s) (backE rs s) e W' := by
  have h1 : 1 ≤ 3 := by omega
  have hro : Fence.wide.round = none := rfl
  have h72 : Fence.wide.fn 72 := trivial
  have h108 : Fence.wide.fn 108 := trivial
  have h60 : Fence.wide.fn 60 := trivial
  have h110 : Fence.wide.fn 110 := trivial
  have h137 : Fence.wide.fn 137 := trivial
  obtain ⟨i0, hi, hz0, hz1, hz2⟩ := info_parts (show (Try.prog.info? 91).map (fun i => (i.zero, i.size, i.bytes)) = some (some (.agg #[.int .i64 0, .string ⟨#[]⟩, .int .i64 0]), 3, 32) by kernel_rfl)
  refine (callsIn_wide (n := 3)).1 ?_
  refine callsIn_of_wp_marks Try.func72 rfl h72 ?_ hro
  simp only [Try.ntmps72, List.size_toArray, List.length_cons, List.length_nil, Nat.reduceAdd, Nat.reduceSub, Array.replicate_succ, Array.replicate_zero, List.push_toArray, List.append_toArray, List.nil_append, List.cons_append]
  have hb0 : Below w.heap.size w (w.alloc (.cells #[.string s] 9)) := (Below.refl _ w).alloc (Nat.le_refl _) _
  have hfit := fits_any a cap rs (s.size : Int) (w.alloc (.cells #[.string s] 9)) (came_up hS hb0) hl
  have hbox := World.alloc_heap_new w (.cells #[.string s] 9)
  have HS := hide hS
  have HB0 := hide hb0
  have HBOX := hide hbox
  clear hS hb0 hbox
  by_cases hf : fitsR rs (s.size : Int) = true
  · rw [hf] at hfit
    obtain ⟨f1, f2, f3, f4, f5, f6⟩ := fits_facts hf
    have HA : Hid (backO rs s = backR s rs ∧ backE rs s = 0) := hide ⟨by rw [backO, if_pos hf], by rw [backE, if_pos hf]⟩
    have HF := hide (And.intro f1 (And.intro f2 (And.intro f3 f4)))
    clear f1 f2 f3 f4 f5 f6 hf
    gi_wp2_with (first
      | (gi_at_call 108; refine (callsIn_wide.2 hfit).mono ?_; rintro e W1 ⟨rfl, hb⟩; have HB1 := hide hb; clear hb)
      | (gi_at_make; refine wpListIn_make_own _ rfl _ _ 77 rfl w.heap.size 91 i0 _ 3 Try.underlying77 hi hz0 hz1 .i64 .i64 (rs.length : Int) rs.length rfl rfl rfl (by rw [hz2]; omega) (by unfold maxLen; omega) (Nat.le_trans HB0.out.size HB1.out.size) ?_; intro W2 hown hgr; have HO2 := hide hown; have HG2 := hide hgr; clear hown hgr))
    gi_wp2_with (gi_at_call 110; refine (steps_any (3 - 1) _ _ _ _).mono ?_; rintro e w' ⟨rfl, rfl⟩)
    have hw1 : Below w.heap.size w W1 := HB0.out.trans (HB1.out.mono HB0.out.size)
    have hbx1 : W1.heap[w.heap.size]? = some (.cells #[.string s] 9 (0, 0)) := (HB1.out.block _ (lt_of_heap HBOX.out)).trans HBOX.out
    have hg2 : Below W1.heap.size W1 W2 := ⟨HG2.out.os, HG2.out.tape, HG2.out.output, HG2.out.size, fun k hk => HG2.out.block k hk (by simp)⟩
    have hb2 : Below W2.heap.size W2 (W2.alloc (.cells #[.slice (some ⟨W1.heap.size, 0, none⟩) 0 rs.length] 77)) := (Below.refl _ _).alloc (Nat.le_refl _) _
    have hnb := World.alloc_heap_new W2 (.cells #[.slice (some ⟨W1.heap.size, 0, none⟩) 0 rs.length] 77)
    obtain ⟨W3, hW3⟩ : ∃ W3, W3 = W2.alloc (.cells #[.slice (some ⟨W1.heap.size, 0, none⟩) 0 rs.length] 77) := ⟨_, rfl⟩
    rw [← hW3] at hb2 hnb
    have hs3 : W3.heap.size = W2.heap.size + 1 := by rw [hW3]; simp
    obtain ⟨W4, hW4⟩ : ∃ W4, W4 = W3.alloc (.cells #[.slice a rs.length cap] 77) := ⟨_, rfl⟩
    have hal : Below W3.heap.size W3 W4 := by rw [hW4]; exact (Below.refl _ _).alloc (Nat.le_refl _) _
    have hbn : Boxed W4 (W2.heap.size + 1) 77 (.slice a rs.length cap) := by rw [hW4, ← hs3]; exact World.alloc_heap_new _ _
    rw [← hW3, ← hW4]
    have h24 : Below W2.heap.size W2 W4 := hb2.trans (hal.mono hb2.size)
    have hw2 : Below w.heap.size w W2 := hw1.trans (hg2.mono hw1.size)
    have hw4 : Below w.heap.size w W4 := hw2.trans (h24.mono hw2.size)
    have hbx4 : W4.heap[w.heap.size]? = some (.cells #[.string s] 9 (0, 0)) := (h24.block _ (Nat.lt_of_lt_of_le (lt_of_heap hbx1) hg2.size)).trans ((hg2.block _ (lt_of_heap hbx1)).trans hbx1)
    have hbb4 : Boxed W4 W2.heap.size 77 (.slice (some ⟨W1.heap.size, 0, none⟩) 0 rs.length) := (hal.block _ (by omega)).trans hnb
    have how2 : OwnR W2 w.heap.size (.slice (some ⟨W1.heap.size, 0, none⟩) 0 rs.length) (backS s (rs.take 0) 0) := HO2.out
    have how4 : OwnR W4 w.heap.size (.slice (some ⟨W1.heap.size, 0, none⟩) 0 rs.length) (backS s (rs.take 0) 0) := how2.kept fun q hq => h24.block _ (how2.lt hq).2
    have hGlt : W1.heap.size < W2.heap.size := (how2.lt (q := W1.heap.size) rfl).2
    have hHG : w.heap.size < W1.heap.size := lt_of_heap hbx1
    have hs4 : W2.heap.size + 1 < W4.heap.size := lt_of_heap hbn
    have hkinds := good_kinds HF.out.1
    obtain ⟨e1, e2⟩ := sums_tok hkinds
    have hstops := steps_stops (3 - 1) (by omega) (W2.heap.size + 1) w.heap.size W4.heap.size a cap rs W4 hkinds (by rw [e1]; have := HF.out.2.2.2; omega) (by rw [e2]; have := HF.out.2.2.1; omega) hs4 hw4.size (Nat.le_refl _) hbn.cell (HS.out.below hw4) hl
    have HW4 := hide hw4
    have HI0 : Hid (BJ w w.heap.size W2.heap.size W1.heap.size s rs [] W4) := hide ⟨⟨how4, hbb4, hbx4⟩, hw4⟩
    have HLT := hide (And.intro hHG (And.intro hGlt hs4))
    have HIN : Hid (sI rs = (s.size : Int)) := hide (by rw [e1]; exact HF.out.2.1)
    have HOU : Hid (tOut (expand rs) ≤ 16777216) := hide HF.out.2.2.1
    have HKI := hide hkinds
    clear hw1 hbx1 hg2 hb2 hnb hW3 hs3 hW4 hal hbn h24 hw2 hw4 hbx4 hbb4 how2 how4 hGlt hHG hs4 hkinds e1 e2
    refine rangeFunc_box h1 (gf := 137) (lb := #[.pointer (some ⟨W2.heap.size + 1, 0, none⟩)]) rfl (enters_of Try.func137 (by kernel_rfl) rfl) hstops KeepP.trans (KeepP.put HW4.out.size) (Below.refl _ _) (fun _ => rfl)
      (BJ w w.heap.size W2.heap.size W1.heap.size s rs) (fun _ _ _ => False) (bj_own w _ _ _ s rs _ HW4.out.size) (fun c => ownT_pure _ _) HI0.out
      (BAx a rs.length cap s w.heap.size W2.heap.size (W2.heap.size + 1) W1.heap.size) (fun x a' => Own.from (bax_own a rs.length cap s _ _ _ _ x a') _) ?assign ?body ?done ?stop
    case assign =>
      rintro l pre ⟨i, o, xk, xa, xd⟩ W K hI hK
      have hal : Below W.heap.size W ((W.alloc (.cells #[.int .i64 i, .int .i64 o] 146)).alloc (.cells #[.int .i64 xk, .string xa, .int .i64 xd] 91)) := ((Below.refl _ _).alloc (Nat.le_refl _) _).alloc (by simp) _
      have hI2 := (bj_own w w.heap.size W2.heap.size W1.heap.size s rs W.heap.size hI.2.size).minds (Nat.le_refl _) _ _ _ hI (.inl hal)
      have hGW : W1.heap.size < W.heap.size := (hI.1.1.lt (q := W1.heap.size) rfl).2
      have HZ := hide (hK (BA a rs.length cap s w.heap.size W2.heap.size (W2.heap.size + 1) W1.heap.size (i, o, ⟨xk, xa, xd⟩) W.heap.size (W.heap.size + 1)) _ (KeepsFrom.of_below hal) (KeepP.of_below hI.2.size hal) hI2
        ⟨_, _, rfl, (Below.heap_alloc _ _ _ (by simp)).trans (World.alloc_heap_new W _), by have := World.alloc_heap_new (W.alloc (.cells #[.int .i64 i, .int .i64 o] 146)) (.cells #[.int .i64 xk, .string xa, .int .i64 xd] 91); rwa [World.size_alloc] at this, by omega⟩)
      clear hK hal hI2 hI hGW
      unfold encP
      dsimp only
      gi_wp2
      exact HZ.out
    case body =>
      rintro l pre x a' W hl0 hI ⟨q1, q2, rfl, hq1, hq2, hqG⟩ hpre
      obtain ⟨hk, hx, _⟩ := plc_at hpre
      have hkx : kind (rs.getD pre.length rn0) ≠ 0 := HKI.out _ (by simp [List.getD, hk])
      have hsn : rs.take (pre.length + 1) = rs.take pre.length ++ [rs.getD pre.length rn0] := by rw [List.take_succ_eq_append_getElem hk]; simp [List.getD, hk]
      have st := sums_take HKI.out (pre.length + 1)
      have tk := sums_tok (rs := rs.take pre.length) fun y hy => HKI.out y (List.mem_of_mem_take hy)
      rw [hsn, sI_snoc, sO_snoc, tk.1, tk.2] at st
      have hbs := backS_snoc s (rs.getD pre.length rn0) (rs.take pre.length) (fun y hy => HKI.out y (List.mem_of_mem_take hy)) 0
      rw [← hsn, Nat.zero_add] at hbs
      rw [tk.1, tk.2] at hx
      subst hx
      obtain ⟨kf1, kf2, _, _⟩ := kind_facts hkx
      generalize hxx : rs.getD pre.length rn0 = x at *
      obtain ⟨xk, xa, xd⟩ := x
      replace kf1 : 0 ≤ xk := kf1
      replace kf2 : 0 ≤ xd := kf2
      obtain ⟨kN, rfl⟩ := Int.eq_ofNat_of_zero_le kf1
      obtain ⟨dN, rfl⟩ := Int.eq_ofNat_of_zero_le kf2
      obtain ⟨iN, hiN⟩ : ∃ iN, iN = tIn (expand (rs.take pre.length)) := ⟨_, rfl⟩
      obtain ⟨oN, hoN⟩ : ∃ oN, oN = tOut (expand (rs.take pre.length)) := ⟨_, rfl⟩
      rw [← hiN] at hbs st hq1 hpre ⊢
      rw [← hoN] at st hq1 hpre ⊢
      have hin := HIN.out
      have hsb : sI rs ≤ 16777216 := by rw [hin, ← HF.out.2.1]; have := HF.out.2.2.2; omega
      replace st : (_ ∧ (iN : Int) + ((kN : Int) + (dN : Int)) ≤ sI rs) ∧ _ := st
      obtain ⟨⟨_, st1⟩, _⟩ := st
      have hle : iN + dN ≤ s.size := by omega
      have hle2 : ((iN + dN : Nat) : Int) ≤ (s.size : Int) := by omega
      have hle3 : (iN : Int) ≤ ((iN + dN : Nat) : Int) := by omega
      have hle4 : iN ≤ iN + dN := by omega
      have w1 : IntKind.i64.wrap ((iN : Int) + (dN : Int)) = ((iN + dN : Nat) : Int) := by rw [IntKind.wrap_i64]; omega
      have z0 : W.cell? ⟨W2.heap.size, 0, none⟩ = some (.slice (some ⟨W1.heap.size, 0, none⟩) pre.length rs.length) := hI.1.2.1.cell
      have z1 := hI.1.2.1.frozen
      have HI := hide hI
      have hqb1 : q1 ≠ W1.heap.size := fun e => by obtain ⟨cur, hc⟩ := hI.1.1.typ (q := W1.heap.size) rfl; rw [e, hc] at hq1; cases hq1
      have hqb2 : q1 ≠ W2.heap.size := fun e => by have hc : W.heap[W2.heap.size]? = _ := hI.1.2.1; rw [e, hc] at hq1; cases hq1
      have hqb3 : q2 ≠ W2.heap.size := fun e => by have hc : W.heap[W2.heap.size]? = _ := hI.1.2.1; rw [e, hc] at hq2; cases hq2
      have hlts := HLT.out
      have HSS : Hid (∀ Y, Only (fun k => k = W1.heap.size ∨ k = W2.heap.size) W Y → SB w.heap.size q1 q2 s (iN : Int) (oN : Int) (kN : Int) xa (dN : Int) Y) := hide fun Y hY =>
        ⟨(hY.block _ (lt_of_heap hI.1.2.2) (by omega)).trans hI.1.2.2, (hY.block _ (lt_of_heap hq1) (fun e => e.elim hqb1 hqb2)).trans hq1, (hY.block _ (lt_of_heap hq2) (fun e => e.elim hqG hqb3)).trans hq2⟩
      have HHK := hide hk
      have HBS : Hid (backS s (rs.take (pre.length + 1)) 0 = backS s (rs.take pre.length) 0 ++ [back1 s iN ⟨(kN : Int), xa, (dN : Int)⟩]) := hide hbs
      clear hI hq1 hq2 hpre hkx hsn tk hxx hiN hoN hbs hk hqb1 hqb2 hqb3 hlts hqG st1 hin hsb kf1 kf2
      unfold BA
      dsimp only
      gi_wp2_with fail
      have hlen : (backS s (rs.take pre.length) 0).length = pre.length := by rw [len_backS, List.length_take]; have := HHK.out; omega
      have hno : ∀ Y, Only (fun k => k = W1.heap.size ∨ k = W2.heap.size) W Y → KeepsFrom W4.heap.size W Y ∧ KeepP w.heap.size W4.heap.size W Y := fun Y hY => by
        obtain ⟨cur, hc⟩ := HI.out.1.1.typ (q := W1.heap.size) rfl
        have hbx : W.heap[W2.heap.size]? = some (.cells #[.slice (some ⟨W1.heap.size, 0, none⟩) pre.length rs.length] 77 (0, 0)) := HI.out.1.2.1
        have hlts := HLT.out
        refine ⟨keepsFrom_only hY (fun k hk => ?_), hY.below HI.out.2.size (fun i hi => by omega), fun k cs hk => ?_, fun k cs hN hk => ?_⟩
        · rcases hk with rfl | rfl
          · exact ⟨_, _, _, hc⟩
          · exact ⟨_, _, _, hbx⟩
        · exact (hY.block k (lt_of_heap hk) (fun e => by
            rcases e with rfl | rfl
            · rw [hc] at hk; cases hk
            · rw [hbx] at hk; cases hk)).trans hk
        · exact (hY.block k (lt_of_heap hk) (fun e => by omega)).trans hk
      have HNO := hide hno
      have HOW : Hid (W.drew.ownsRow w.heap.size 91 3 (.slice (some ⟨W1.heap.size, 0, none⟩) pre.length rs.length) pre.length (cellsR (backS s (rs.take pre.length) 0))) := hide (by have h := HI.out.1.1; unfold OwnR at h; rw [hlen] at h; exact h)
      have HZB : Hid (Boxed W.drew W2.heap.size 77 (.slice (some ⟨W1.heap.size, 0, none⟩) pre.length rs.length)) := hide HI.out.1.2.1
      have HON : Hid (Only (fun k => k = W1.heap.size ∨ k = W2.heap.size) W W.drew) := hide ⟨rfl, rfl, rfl, Nat.le_refl _, fun _ _ _ => rfl⟩
      have HLEN := hide hlen
      clear hno hlen z0 z1
      have HSW : Hid (SB w.heap.size q1 q2 s (iN : Int) (oN : Int) (kN : Int) xa (dN : Int) W.drew) := hide (HSS.out _ ⟨rfl, rfl, rfl, Nat.le_refl _, fun _ _ _ => rfl⟩)
      refine heldS_start (S := SB w.heap.size q1 q2 s (iN : Int) (oN : Int) (kN : Int) xa (dN : Int)) (by kernel_rfl) (by kernel_rfl) (by rintro ⟨_, _, h⟩; exact h) ?_
      refine heldS_take (i := 1) (oi := { dst := some 22, op := Op.fieldAddr 91 (Operand.tmp 8) 0, type := 0, pos := _, after := _, guard := none }) (v := _) rfl (by kernel_rfl) (by kernel_rfl) (by kernel_rfl) (fun _ _ _ h => h) (by rfl) (by intro w' hSw; go_simp; try with_reducible rfl) HSW.out ?_
      simp only [Act.put, List.setIfInBounds_toArray, List.set_cons_zero, List.set_cons_succ]
      refine heldS_take (i := 2) (oi := { dst := some 23, op := Op.load 3 (Operand.tmp 22), type := 3, pos := _, after := _, guard := none }) (v := _) rfl (by kernel_rfl) (by kernel_rfl) (by kernel_rfl) (fun _ _ _ h => h) (by rfl) (by intro w' hSw; obtain ⟨hs1, hs2, hs3⟩ := hSw; have c1 : w'.cell? ⟨w.heap.size, 0, none⟩ = some (.string s) := (by rw [Joins.cell_of_block hs1]; rfl); obtain ⟨p0, p1⟩ := cellsp hs2; obtain ⟨r0, r1, r2⟩ := cellsq hs3; go_simp; try with_reducible rfl) HSW.out ?_
      simp only [Act.put, List.setIfInBounds_toArray, List.set_cons_zero, List.set_cons_succ]
      refine heldS_take (i := 3) (oi := { dst := some 24, op := Op.load 9 (Operand.tmp 3), type := 9, pos := _, after := _, guard := none }) (v := _) rfl (by kernel_rfl) (by kernel_rfl) (by kernel_rfl) (fun _ _ _ h => h) (by rfl) (by intro w' hSw; obtain ⟨hs1, hs2, hs3⟩ := hSw; have c1 : w'.cell? ⟨w.heap.size, 0, none⟩ = some (.string s) := (by rw [Joins.cell_of_block hs1]; rfl); obtain ⟨p0, p1⟩ := cellsp hs2; obtain ⟨r0, r1, r2⟩ := cellsq hs3; go_simp; try with_reducible rfl) HSW.out ?_
      simp only [Act.put, List.setIfInBounds_toArray, List.set_cons_zero, List.set_cons_succ]
      refine heldS_take (i := 4) (oi := { dst := some 25, op := Op.fieldAddr 146 (Operand.tmp 7) 0, type := 0, pos := _, after := _, guard := none }) (v := _) rfl (by kernel_rfl) (by kernel_rfl) (by kernel_rfl) (fun _ _ _ h => h) (by rfl) (by intro w' hSw; go_simp; try with_reducible rfl) HSW.out ?_
      simp only [Act.put, List.setIfInBounds_toArray, List.set_cons_zero, List.set_cons_succ]
      refine heldS_take (i := 5) (oi := { dst := some 26, op := Op.load 3 (Operand.tmp 25), type := 3, pos := _, after := _, guard := none }) (v := _) rfl (by kernel_rfl) (by kernel_rfl) (by kernel_rfl) (fun _ _ _ h => h) (by rfl) (by intro w' hSw; obtain ⟨hs1, hs2, hs3⟩ := hSw; have c1 : w'.cell? ⟨w.heap.size, 0, none⟩ = some (.string s) := (by rw [Joins.cell_of_block hs1]; rfl); obtain ⟨p0, p1⟩ := cellsp hs2; obtain ⟨r0, r1, r2⟩ := cellsq hs3; go_simp; try with_reducible rfl) HSW.out ?_
      simp only [Act.put, List.setIfInBounds_toArray, List.set_cons_zero, List.set_cons_succ]
      refine heldS_take (i := 6) (oi := { dst := some 27, op := Op.fieldAddr 146 (Operand.tmp 7) 0, type := 0, pos := _, after := _, guard := none }) (v := _) rfl (by kernel_rfl) (by kernel_rfl) (by kernel_rfl) (fun _ _ _ h => h) (by rfl) (by intro w' hSw; go_simp; try with_reducible rfl) HSW.out ?_
      simp only [Act.put, List.setIfInBounds_toArray, List.set_cons_zero, List.set_cons_succ]
      refine heldS_take (i := 7) (oi := { dst := some 28, op := Op.load 3 (Operand.tmp 27), type := 3, pos := _, after := _, guard := none }) (v := _) rfl (by kernel_rfl) (by kernel_rfl) (by kernel_rfl) (fun _ _ _ h => h) (by rfl) (by intro w' hSw; obtain ⟨hs1, hs2, hs3⟩ := hSw; have c1 : w'.cell? ⟨w.heap.size, 0, none⟩ = some (.string s) := (by rw [Joins.cell_of_block hs1]; rfl); obtain ⟨p0, p1⟩ := cellsp hs2; obtain ⟨r0, r1, r2⟩ := cellsq hs3; go_simp; try with_reducible rfl) HSW.out ?_
      simp only [Act.put, List.setIfInBounds_toArray, List.set_cons_zero, List.set_cons_succ]
      refine heldS_take (i := 8) (oi := { dst := some 29, op := Op.fieldAddr 91 (Operand.tmp 8) 2, type := 0, pos := _, after := _, guard := none }) (v := _) rfl (by kernel_rfl) (by kernel_rfl) (by kernel_rfl) (fun _ _ _ h => h) (by rfl) (by intro w' hSw; go_simp; try with_reducible rfl) HSW.out ?_
      simp only [Act.put, List.setIfInBounds_toArray, List.set_cons_zero, List.set_cons_succ]
      refine heldS_take (i := 9) (oi := { dst := some 30, op := Op.load 3 (Operand.tmp 29), type := 3, pos := _, after := _, guard := none }) (v := _) rfl (by kernel_rfl) (by kernel_rfl) (by kernel_rfl) (fun _ _ _ h => h) (by rfl) (by intro w' hSw; obtain ⟨hs1, hs2, hs3⟩ := hSw; have c1 : w'.cell? ⟨w.heap.size, 0, none⟩ = some (.string s) := (by rw [Joins.cell_of_block hs1]; rfl); obtain ⟨p0, p1⟩ := cellsp hs2; obtain ⟨r0, r1, r2⟩ := cellsq hs3; go_simp; try with_reducible rfl) HSW.out ?_
      simp only [Act.put, List.setIfInBounds_toArray, List.set_cons_zero, List.set_cons_succ]
      refine heldS_take (i := 10) (oi := { dst := some 31, op := Op.binOp BinOp.add 3 (Operand.tmp 28) (Operand.tmp 30) 3, type := 3, pos := _, after := _, guard := none }) (v := _) rfl (by kernel_rfl) (by kernel_rfl) (by kernel_rfl) (fun _ _ _ h => h) (by rfl) (by intro w' hSw; go_simp; try with_reducible rfl) HSW.out ?_
      simp only [Act.put, List.setIfInBounds_toArray, List.set_cons_zero, List.set_cons_succ]
      refine heldS_take (i := 11) (oi := { dst := some 32, op := Op.slice 9 (Operand.tmp 24) (some (Operand.tmp 26)) (some (Operand.tmp 31)) none, type := 9, pos := _, after := _, guard := none }) (v := _) rfl (by kernel_rfl) (by kernel_rfl) (by kernel_rfl) (fun _ _ _ h => h) (by rfl) (by intro w' hSw; have b1 : (iN : Int) + (dN : Int) ≤ (s.size : Int) := (by omega); have b2 : 0 ≤ (iN : Int) + (dN : Int) := (by omega); have b3 : (iN : Int) ≤ (iN : Int) + (dN : Int) := (by omega); have b4 : ((iN : Int) + (dN : Int)).toNat = iN + dN := (by omega); go_simp; try with_reducible rfl) HSW.out ?_
      simp only [Act.put, List.setIfInBounds_toArray, List.set_cons_zero, List.set_cons_succ]
      refine heldS_take (i := 12) (oi := { dst := some 33, op := Op.fieldAddr 91 (Operand.tmp 8) 1, type := 0, pos := _, after := _, guard := none }) (v := _) rfl (by kernel_rfl) (by kernel_rfl) (by kernel_rfl) (fun _ _ _ h => h) (by rfl) (by intro w' hSw; go_simp; try with_reducible rfl) HSW.out ?_
      simp only [Act.put, List.setIfInBounds_toArray, List.set_cons_zero, List.set_cons_succ]
      refine heldS_take (i := 13) (oi := { dst := some 34, op := Op.load 9 (Operand.tmp 33), type := 9, pos := _, after := _, guard := none }) (v := _) rfl (by kernel_rfl) (by kernel_rfl) (by kernel_rfl) (fun _ _ _ h => h) (by rfl) (by intro w' hSw; obtain ⟨hs1, hs2, hs3⟩ := hSw; have c1 : w'.cell? ⟨w.heap.size, 0, none⟩ = some (.string s) := (by rw [Joins.cell_of_block hs1]; rfl); obtain ⟨p0, p1⟩ := cellsp hs2; obtain ⟨r0, r1, r2⟩ := cellsq hs3; go_simp; try with_reducible rfl) HSW.out ?_
      simp only [Act.put, List.setIfInBounds_toArray, List.set_cons_zero, List.set_cons_succ]
      refine heldS_take (i := 14) (oi := { dst := some 35, op := Op.call { callee := Callee.builtin Builtin.len, args := #[Operand.tmp 34], argTypes := #[9] }, type := 3, pos := _, after := _, guard := none }) (v := _) rfl (by kernel_rfl) (by kernel_rfl) (by kernel_rfl) (fun _ _ _ h => h) (by rfl) (by intro w' hSw; go_simp; try with_reducible rfl) HSW.out ?_
      simp only [Act.put, List.setIfInBounds_toArray, List.set_cons_zero, List.set_cons_succ]
      refine heldS_take (i := 15) (oi := { dst := some 36, op := Op.build 91 #[(0, Operand.tmp 23), (1, Operand.tmp 32), (2, Operand.tmp 35)], type := 91, pos := _, after := _, guard := none }) (v := _) rfl (by kernel_rfl) (by kernel_rfl) (by kernel_rfl) (fun _ _ _ h => h) (by rfl) (by intro w' hSw; go_simp; try with_reducible rfl) HSW.out ?_
      simp only [Act.put, List.setIfInBounds_toArray, List.set_cons_zero, List.set_cons_succ]
      refine heldS_fork (i := 0) (j := 16) (oi := { dst := some 21, op := Op.load 77 (Operand.tmp 6), type := 77, pos := _, after := _, guard := none }) (oj := { dst := some 37, op := Op.buildSlice 77 1 #[(0, Operand.tmp 36)], type := 77, pos := _, after := _, guard := none }) (by kernel_rfl) rfl rfl (by rfl) (by rfl) HSW.out (fun K hK => ?_) (fun K hK => ?_)
      refine oper_value (load_at rfl rfl HZB.out.cell) ?_
      refine hK.out _ _ ?_
      clear hK K
      try simp only [Act.put, List.setIfInBounds_toArray, List.set_cons_zero, List.set_cons_succ]
      refine heldS_step (i := 16) (o := { dst := some 37, op := Op.buildSlice 77 1 #[(0, Operand.tmp 36)], type := 77, pos := _, after := _, guard := none }) (by kernel_rfl) rfl (by rfl) HSW.out (fun K hK => ?_)
      refine oper_value (build_at rfl rfl) ?_
      have HNEW : Hid (∀ i u, (cellsR [back1 s iN ⟨(kN : Int), xa, (dN : Int)⟩])[i]? = some u → (W.drew.alloc (.cells #[.int .i64 (kN : Int), .string (s.extract iN (iN + dN)), .int .i64 (xa.size : Int)] 91)).cell? ((⟨W.drew.heap.size, 0, none⟩ : Addr).add i) = some u) := hide fun i u hu => World.news_of_block (cs := #[.int .i64 (kN : Int), .string (s.extract iN (iN + dN)), .int .i64 (xa.size : Int)]) (World.alloc_heap_new W.drew _) i u hu
      replace HOW := hide (World.ownsRow.alloc HOW.out (.cells #[.int .i64 (kN : Int), .string (s.extract iN (iN + dN)), .int .i64 (xa.size : Int)] 91))
      replace HZB : Hid (Boxed (W.drew.alloc (.cells #[.int .i64 (kN : Int), .string (s.extract iN (iN + dN)), .int .i64 (xa.size : Int)] 91)) W2.heap.size 77 (.slice (some ⟨W1.heap.size, 0, none⟩) pre.length rs.length)) := hide ((Below.heap_alloc W.drew (.cells #[.int .i64 (kN : Int), .string (s.extract iN (iN + dN)), .int .i64 (xa.size : Int)] 91) _ (lt_of_heap HZB.out)).trans HZB.out)
      replace HON := hide (HON.out.trans (Only.alloc _ W.drew (.cells #[.int .i64 (kN : Int), .string (s.extract iN (iN + dN)), .int .i64 (xa.size : Int)] 91)))
      replace HSW := hide (HSS.out _ HON.out)
      refine hK.out _ _ ?_
      clear hK K
      try simp only [Act.put, List.setIfInBounds_toArray, List.set_cons_zero, List.set_cons_succ]
      rotate_left
      refine oper_value (build_at rfl rfl) ?_
      have HNEW : Hid (∀ i u, (cellsR [back1 s iN ⟨(kN : Int), xa, (dN : Int)⟩])[i]? = some u → (W.drew.alloc (.cells #[.int .i64 (kN : Int), .string (s.extract iN (iN + dN)), .int .i64 (xa.size : Int)] 91)).cell? ((⟨W.drew.heap.size, 0, none⟩ : Addr).add i) = some u) := hide fun i u hu => World.news_of_block (cs := #[.int .i64 (kN : Int), .string (s.extract iN (iN + dN)), .int .i64 (xa.size : Int)]) (World.alloc_heap_new W.drew _) i u hu
      replace HOW := hide (World.ownsRow.alloc HOW.out (.cells #[.int .i64 (kN : Int), .string (s.extract iN (iN + dN)), .int .i64 (xa.size : Int)] 91))
      replace HZB : Hid (Boxed (W.drew.alloc (.cells #[.int .i64 (kN : Int), .string (s.extract iN (iN + dN)), .int .i64 (xa.size : Int)] 91)) W2.heap.size 77 (.slice (some ⟨W1.heap.size, 0, none⟩) pre.length rs.length)) := hide ((Below.heap_alloc W.drew (.cells #[.int .i64 (kN : Int), .string (s.extract iN (iN + dN)), .int .i64 (xa.size : Int)] 91) _ (lt_of_heap HZB.out)).trans HZB.out)
      replace HON := hide (HON.out.trans (Only.alloc _ W.drew (.cells #[.int .i64 (kN : Int), .string (s.extract iN (iN + dN)), .int .i64 (xa.size : Int)] 91)))
      replace HSW := hide (HSS.out _ HON.out)
      refine hK.out _ _ ?_
      clear hK K
      try simp only [Act.put, List.setIfInBounds_toArray, List.set_cons_zero, List.set_cons_succ]
      refine heldS_step (i := 0) (o := { dst := some 21, op := Op.load 77 (Operand.tmp 6), type := 77, pos := _, after := _, guard := none }) (by kernel_rfl) rfl (by rfl) HSW.out (fun K hK => ?_)
      refine oper_value (load_at rfl rfl HZB.out.cell) ?_
      refine hK.out _ _ ?_
      clear hK K
      try simp only [Act.put, List.setIfInBounds_toArray, List.set_cons_zero, List.set_cons_succ]
      all_goals
        refine heldS_step (i := 17) (o := { dst := some 38, op := Op.call { callee := Callee.builtin Builtin.append, args := #[Operand.tmp 21, Operand.tmp 37], argTypes := #[77, 77] }, type := 77, pos := _, after := _, guard := none }) (by kernel_rfl) rfl (by rfl) HSW.out (fun K hK => ?_)
        refine wp_append_fits rfl (.tmp 21) (.tmp 37) 77 rfl w.heap.size 91 i0 3 Try.underlying77 hi hz1 W1.heap.size pre.length rs.length _ rfl HOW.out ⟨W.drew.heap.size, 0, none⟩ 1 1 (cellsR [back1 s iN ⟨(kN : Int), xa, (dN : Int)⟩]) rfl (by rfl) HNEW.out (oneCellR _) (by have := HHK.out; omega) ?_
        intro WA hown hgr
        replace HOW := hide hown
        replace HON := hide (HON.out.trans (Only.grown hgr (fun k hk => by cases hk; exact .inl rfl)))
        replace HSW := hide (HSS.out _ HON.out)
        replace HZB : Hid (Boxed WA W2.heap.size 77 (.slice (some ⟨W1.heap.size, 0, none⟩) pre.length rs.length)) := hide ((hgr.block _ (lt_of_heap HZB.out) (fun e => absurd (Option.some.inj e) (Nat.ne_of_gt HLT.out.2.1))).trans HZB.out)
        clear hown hgr HNEW
        refine hK.out _ _ ?_
        clear hK K
        try simp only [Act.put, List.setIfInBounds_toArray, List.set_cons_zero, List.set_cons_succ]
      all_goals
        refine heldS_step (i := 18) (o := { dst := none, op := Op.store 77 (Operand.tmp 6) (Operand.tmp 38), type := 0, pos := _, after := _, guard := none }) (by kernel_rfl) rfl (by rfl) HSW.out (fun K hK => ?_)
        refine oper_skip (store_at rfl rfl rfl HZB.out.cell HZB.out.frozen ⟨_, _, _, rfl⟩) ?_
        replace HON := hide (HON.out.trans (Only.setCell (S := fun k => k = W1.heap.size ∨ k = W2.heap.size) WA ⟨W2.heap.size, 0, none⟩ (.slice (some ⟨W1.heap.size, 0, none⟩) (pre.length + 1) rs.length) (.inr rfl)))
        replace HSW := hide (HSS.out _ HON.out)
        replace HZB := hide (HZB.out.set (.slice (some ⟨W1.heap.size, 0, none⟩) (pre.length + 1) rs.length))
        have hne : W1.heap.size ≠ W2.heap.size := Nat.ne_of_lt HLT.out.2.1
        replace HOW : Hid ((WA.setCell ⟨W2.heap.size, 0, none⟩ (.slice (some ⟨W1.heap.size, 0, none⟩) (pre.length + 1) rs.length)).ownsRow w.heap.size 91 3 (.slice (some ⟨W1.heap.size, 0, none⟩) (pre.length + 1) rs.length) (pre.length + 1) (cellsR (backS s (rs.take pre.length) 0) ++ cellsR [back1 s iN ⟨(kN : Int), xa, (dN : Int)⟩])) := hide (by refine ⟨HOW.out.1, HOW.out.2.imp id ?_⟩; rintro ⟨g, capq, cur, hv, hb, hg, r⟩; cases hv; exact ⟨_, _, cur, rfl, hb, (heap_setCell_ne _ hne).trans hg, r⟩)
        refine hK.out _ _ ?_
        clear hK K
        try simp only [Act.put, List.setIfInBounds_toArray, List.set_cons_zero, List.set_cons_succ]
      all_goals
        refine heldS_done (by kernel_rfl) HSW.out ?_
      all_goals
        obtain ⟨k1, k2⟩ := HNO.out _ HON.out
        refine ⟨k1, k2, ⟨?_, ?_, ?_⟩, HI.out.2.trans k2.1⟩
        · rw [List.length_append]
          show OwnR _ _ (.slice (some ⟨W1.heap.size, 0, none⟩) (pre.length + 1) rs.length) (backS s (rs.take (pre.length + 1)) 0)
          rw [HBS.out]
          show World.ownsRow _ _ _ _ _ _ _
          rw [cellsR_append, List.length_append, HLEN.out]
          exact HOW.out
        · rw [List.length_append]; exact HZB.out
        · exact HSW.out.1
    case done =>
      rintro D ys W hD rfl hI hK
      obtain ⟨⟨ho, hb, hx⟩, hB⟩ := hI
      rw [length_plc, List.take_length] at ho
      rw [length_plc] at hb
      have hlb : (backS s rs 0).length = rs.length := len_backS s rs 0
      have z0 : W.cell? ⟨W2.heap.size, 0, none⟩ = some (.slice (some ⟨W1.heap.size, 0, none⟩) rs.length rs.length) := hb.cell
      have hn := norm_any (some ⟨W1.heap.size, 0, none⟩) rs.length (backS s rs 0) W ho.came (by rw [hlb]; exact hl)
      rw [hlb] at hn
      have hn2 : Calls Try.prog 60 #[.slice (some ⟨W1.heap.size, 0, none⟩) rs.length rs.length] W fun e W' => Gives W.heap.size W (backR s rs) e W' := hn
      have HK := hide hK
      have HBW := hide hB
      clear ho hb hx hB hK hlb hn
      gi_wp2_with (gi_at_call 60; refine (callsIn_wide.2 hn2).mono ?_; rintro e W5 ⟨a5, c5, rfl, hc, hb⟩; have HC5 := hide hc; have HB5 := hide hb; clear hc hb)
      have hK5 : W5.heap[D]? = some (Obj.deferred (some [])) := (HB5.out.block _ (lt_of_heap HK.out)).trans HK.out
      have hbl := belowK_b (w := w) (Nat.le_refl _) W5 D _ (Obj.deferred none) (Nat.le_trans HW4.out.size hD) hK5 rfl rfl
      refine ⟨by simp, .inl ⟨_, _, rfl, run_takeDeferred hK5, ?_⟩⟩
      refine ⟨.tuple #[.slice a5 (backR s rs).length c5, .int .i64 0], ?_, a5, c5, by rw [HA.out.1, HA.out.2], ?_, (HBW.out.trans (HB5.out.mono HBW.out.size)).trans hbl⟩
      · simp [results, Try.f72, go_sem]
      · rw [HA.out.1]
        exact came_put HC5.out hK5 _
    case stop =>
      rintro D cc pre W hD hpre hno hK
      exact hno.elim
  · have hf' : fitsR rs (s.size : Int) = false := by simpa using hf
    rw [hf'] at hfit
    have HA : Hid (backO rs s = [] ∧ backE rs s = 60) := hide ⟨by rw [backO, if_neg hf], by rw [backE, if_neg hf]⟩
    clear hf hf'
    gi_wp2_with (gi_at_call 108; refine (callsIn_wide.2 hfit).mono ?_; rintro e W1 ⟨rfl, hb⟩; have HB1 := hide hb; clear hb)
    refine ⟨.tuple #[.slice none 0 0, .int .i64 60], ?_, none, 0, by rw [HA.out.1, HA.out.2]; rfl, by rw [HA.out.1]; exact .inl rfl, HB0.out.trans (HB1.out.mono HB0.out.size)⟩
    simp [results, Try.f72, go_sem]

end Go.Proofs.Ytpmijaplkbmbiaa.E
