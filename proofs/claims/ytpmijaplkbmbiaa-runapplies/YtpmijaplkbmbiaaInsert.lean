/- slices.Insert at this program: rows of texts. -/
import Derived.Test.YtpmijaplkbmbiaaBuild
import Derived.Shelf.Spec.SlicesInsert
import Derived.Shelf.Spec.SlicesInsertGrow
namespace Go.Proofs.Ytpmijaplkbmbiaa
open Go.RowKit Go.By Go.Shelf
set_option linter.unusedVariables false

theorem splice_cons (L : List Value) (o : Nat) (v : Value) (r : List Value) (h : o + (r.length + 1) ≤ L.length) : splice (L.set o v) (o + 1) r = splice L o (v :: r) := by
  have e := list_seg_step L o v r h
  simpa [splice, Nat.add_assoc, Nat.add_comm 1] using e

theorem splice2 {α : Type} (L D V : List α) (i : Nat) (h : i + V.length + D.length ≤ L.length) : splice (splice L (i + V.length) D) i V = L.take i ++ (V ++ (D ++ L.drop (i + V.length + D.length))) := by
  have hp : (L.take (i + V.length)).length = i + V.length := by rw [List.length_take]; omega
  unfold splice
  congr 1
  · rw [List.take_append_of_le_length (by omega), List.take_take]; congr 1; omega
  · congr 1
    conv => lhs; arg 1; rw [← hp]
    rw [List.drop_left]

theorem splice2' {α : Type} (L D V : List α) (i : Nat) (h : i + V.length + D.length ≤ L.length) : splice (splice L i V) (i + V.length) D = L.take i ++ (V ++ (D ++ L.drop (i + V.length + D.length))) := by
  have hp : (L.take i ++ V).length = i + V.length := by rw [List.length_append, List.length_take]; omega
  have e : splice L i V = (L.take i ++ V) ++ L.drop (i + V.length) := by unfold splice; rw [List.append_assoc]
  rw [e]
  unfold splice
  rw [List.take_append_of_le_length (by omega), List.take_of_length_le (by omega), List.append_assoc]
  congr 3
  rw [List.drop_append, hp, List.drop_eq_nil_of_le (by omega), List.drop_drop, List.nil_append]
  congr 1; omega

theorem heap_setCells (b : Nat) (t : TypeId) : ∀ (vs : List Value) (o : Nat) (L : List Value) (w : World), w.heap[b]? = some (.cells L.toArray t (0, 0)) → o + vs.length ≤ L.length →
    (w.setCells b o vs).heap[b]? = some (.cells (splice L o vs).toArray t (0, 0)) ∧ Only (fun k => k = b) w (w.setCells b o vs)
  | [], o, L, w, h, _ => by
    refine ⟨?_, Only.refl _ w⟩
    simp only [World.setCells, splice, List.length_nil, Nat.add_zero, List.nil_append, List.take_append_drop]
    exact h
  | v :: r, o, L, w, h, hl => by
    have h1 := heap_setCell (i := o) h v
    have h2 : (w.setCell ⟨b, o, none⟩ v).heap[b]? = some (.cells (L.set o v).toArray t (0, 0)) := by rw [h1]; simp
    have ih := heap_setCells b t r (o + 1) (L.set o v) (w.setCell ⟨b, o, none⟩ v) h2 (by simp at hl ⊢; omega)
    rw [splice_cons L o v r (by simpa using hl)] at ih
    exact ⟨ih.1, (Only.setCell (S := fun k => k = b) w ⟨b, o, none⟩ v rfl).trans ih.2⟩

theorem row_of_block {W : World} {B k cap : Nat} {L : List Value} {qs : List ByteArray} (hB : B ≤ k) (h : W.heap[k]? = some (.cells L.toArray 9 (0, 0))) (hl : L.length = cap) (hc : qs.length ≤ cap) (hm : cap ≤ maxLen) (ht : L.take qs.length = strs qs) :
    W.ownsRow B 9 1 (.slice (some ⟨k, 0, none⟩) qs.length cap) qs.length (strs qs) :=
  ⟨by simp, .inr ⟨k, cap, _, rfl, hB, h, hc, hm, by simpa using hl, by simpa using ht⟩⟩

/-- What a replacement leaves. -/
def Repl (B : Nat) (sv : Value) (W W' : World) (v' : Value) (qs : List ByteArray) : Prop :=
  W'.ownsRow B 9 1 v' qs.length (strs qs) ∧ Only (fun k => some k = sv.ownBlock) W W' ∧ (v'.ownBlock = sv.ownBlock ∨ ∃ k, v'.ownBlock = some k ∧ W.heap.size ≤ k)

theorem oneCell_strs (l : List ByteArray) : ∀ u ∈ strs l, u.oneCell' = true := by
  intro u hu
  obtain ⟨c, _, rfl⟩ := List.mem_map.1 hu
  rfl

/-- A row, written out. -/
theorem row_open {W : World} {B : Nat} {v : Value} {l : List ByteArray} (h : W.ownsRow B 9 1 v l.length (strs l)) :
    (v = .slice none 0 0 ∧ l = []) ∨ ∃ k cap L, v = .slice (some ⟨k, 0, none⟩) l.length cap ∧ B ≤ k ∧ W.heap[k]? = some (.cells (List.toArray L) 9 (0, 0)) ∧ l.length ≤ cap ∧ cap ≤ maxLen ∧ L.length = cap ∧ L.take l.length = strs l := by
  rcases h.2 with ⟨rfl, h0⟩ | ⟨k, cap, cur, rfl, hb, hh, hn, hm, hs, ht⟩
  · exact .inl ⟨rfl, List.length_eq_zero_iff.1 h0⟩
  · exact .inr ⟨k, cap, cur.toList, rfl, hb, by simpa using hh, hn, hm, by simpa using hs, by simpa using ht⟩

theorem cells_of {W : World} {k : Nat} {L : List Value} {l : List ByteArray} (hh : W.heap[k]? = some (.cells L.toArray 9 (0, 0))) (ht : L.take l.length = strs l) : ∀ j v, (strs l)[j]? = some v → W.cell? ⟨k, 0 + j, none⟩ = some v := by
  intro j v hj
  have hlt : j < l.length := by
    rcases Nat.lt_or_ge j l.length with h | h
    · exact h
    · simp [h] at hj
  rw [Nat.zero_add, Joins.cell_of_block hh, ← hj, ← ht, List.getElem?_take_of_lt hlt]
  simp

theorem grownRow {W : World} (n m c : Nat) (hm : n + m ≤ 1000000) : n + m ≤ grownCap W (n + m) c 9 ∧ grownCap W (n + m) c 9 ≤ maxLen := ⟨grownCap_ge W _ _ _, grownCap_le_maxLen W (n + m) c 9 (by unfold maxLen; omega)⟩

theorem zeroCells_len (k : Nat) : (Builtin.zeroCells (Value.string ⟨#[]⟩).cells k).toList.length = k := by simp [Builtin.zeroCells, Value.cells]

theorem Only.drew (S : Nat → Prop) (w : World) : Only S w w.drew := ⟨rfl, rfl, rfl, Nat.le_refl _, fun _ _ _ => rfl⟩

theorem ins_end_grow (base : Option Addr) (n c vb m vc : Nat) (cs vs : List Value) (w : World) (hm : 0 < m) (hnc : n ≤ c) (hroom : c < n + m) (hbig : n + m ≤ 1000000)
    (hcl : cs.length = n) (hvl : vs.length = m) (hnil : base = none → n = 0) (hcs : ∀ a, base = some a → ∀ j v, cs[j]? = some v → w.cell? (a.add j) = some v)
    (hvs : ∀ j v, vs[j]? = some v → w.cell? ⟨vb, 0 + j, none⟩ = some v) (h1v : ∀ v ∈ vs, v.oneCell' = true) :
    Calls Try.prog 145 #[.slice base n c, .int .i64 n, .slice (some ⟨vb, 0, none⟩) m vc] w fun e w' => ∃ G Z, n + m ≤ G ∧ G ≤ maxLen ∧ (cs ++ vs ++ Z).length = G ∧ e = .returned (.slice (some ⟨w.heap.size, 0, none⟩) (n + m) G) ∧ w' = w.drew.alloc (.cells (cs ++ vs ++ Z).toArray 9) := by
  refine Calls.mono (R := fun e w' => e = .returned (.slice (some ⟨w.heap.size, 0, none⟩) (n + m) (grownCap w (n + m) c 9)) ∧ w' = w.drew.alloc (.cells ((cs ++ vs).toArray ++ Builtin.zeroCells (Value.string ⟨#[]⟩).cells (grownCap w (n + m) c 9 - (n + m))) 9)) (Any2.slices_Insert_string_end_grow Try.laysNm222 base n c vb 0 m vc cs vs w hm hnc hroom (by omega) hcl hvl hnil hcs hvs h1v) ?_
  rintro e w' ⟨rfl, rfl⟩
  obtain ⟨g1, g2⟩ := grownRow (W := w) n m c hbig
  refine ⟨_, (Builtin.zeroCells (Value.string ⟨#[]⟩).cells (grownCap w (n + m) c 9 - (n + m))).toList, g1, g2, ?_, rfl, ?_⟩
  · rw [List.length_append, List.length_append, zeroCells_len, hcl, hvl]; omega
  · congr 2
    apply Array.ext'
    simp

theorem ins_grow (b n c i vb m vc : Nat) (cs vs : List Value) (w : World) (hi : i < n) (hm : 0 < m) (hnc : n ≤ c) (hroom : c < n + m) (hbig : n + m ≤ 1000000)
    (hcl : cs.length = n) (hvl : vs.length = m) (hcs : ∀ j v, cs[j]? = some v → w.cell? ⟨b, 0 + j, none⟩ = some v)
    (hvs : ∀ j v, vs[j]? = some v → w.cell? ⟨vb, 0 + j, none⟩ = some v) (h1c : ∀ v ∈ cs, v.oneCell' = true) (h1v : ∀ v ∈ vs, v.oneCell' = true) :
    Calls Try.prog 145 #[.slice (some ⟨b, 0, none⟩) n c, .int .i64 i, .slice (some ⟨vb, 0, none⟩) m vc] w fun e w' => ∃ G Z, n + m ≤ G ∧ G ≤ maxLen ∧ (cs.take i ++ vs ++ cs.drop i ++ Z).length = G ∧ e = .returned (.slice (some ⟨w.heap.size, 0, none⟩) (n + m) G) ∧ Only (fun _ => False) w w' ∧ w'.heap[w.heap.size]? = some (.cells (cs.take i ++ vs ++ cs.drop i ++ Z).toArray 9 (0, 0)) := by
  refine Calls.mono (R := fun e w' => e = .returned (.slice (some ⟨w.heap.size, 0, none⟩) (n + m) (grownCap w (n + m) c 9)) ∧ w' = (((w.alloc (.cells ((cs.take i).toArray ++ Builtin.zeroCells (Value.string ⟨#[]⟩).cells (n + m - i) ++ Builtin.zeroCells (Value.string ⟨#[]⟩).cells (grownCap w (n + m) c 9 - (n + m))) 9)).drew.setCells w.heap.size i vs).drew).setCells w.heap.size (i + m) (cs.drop i)) (Any2.slices_Insert_string_grow Try.laysNm222 b 0 n c i vb 0 m vc cs vs w hi hm hnc hroom (by omega) hcl hvl hcs hvs h1c h1v) ?_
  rintro e w' ⟨rfl, rfl⟩
  obtain ⟨g1, g2⟩ := grownRow (W := w) n m c hbig
  generalize grownCap w (n + m) c 9 = G at g1 g2
  obtain ⟨Y, hY⟩ : ∃ Y, Y = (Builtin.zeroCells (Value.string ⟨#[]⟩).cells (n + m - i)).toList := ⟨_, rfl⟩
  obtain ⟨Z, hZ⟩ : ∃ Z, Z = (Builtin.zeroCells (Value.string ⟨#[]⟩).cells (G - (n + m))).toList := ⟨_, rfl⟩
  have hYl : Y.length = n + m - i := by rw [hY, zeroCells_len]
  have hZl : Z.length = G - (n + m) := by rw [hZ, zeroCells_len]
  have hrow : (cs.take i).toArray ++ Builtin.zeroCells (Value.string ⟨#[]⟩).cells (n + m - i) ++ Builtin.zeroCells (Value.string ⟨#[]⟩).cells (G - (n + m)) = (cs.take i ++ Y ++ Z).toArray := by
    apply Array.ext'; simp [hY, hZ]
  rw [hrow]
  have h0 : (w.alloc (.cells (cs.take i ++ Y ++ Z).toArray 9)).drew.heap[w.heap.size]? = some (.cells (cs.take i ++ Y ++ Z).toArray 9 (0, 0)) := World.alloc_heap_new w _
  have hti : (cs.take i).length = i := by rw [List.length_take]; omega
  have hl0 : (cs.take i ++ Y ++ Z).length = G := by simp only [List.length_append, hYl, hZl, hti]; omega
  obtain ⟨h1, o1⟩ := heap_setCells w.heap.size 9 vs i _ _ h0 (by rw [hl0]; omega)
  have h1' : ((w.alloc (.cells (cs.take i ++ Y ++ Z).toArray 9)).drew.setCells w.heap.size i vs).drew.heap[w.heap.size]? = _ := h1
  have hl1 := length_splice (cs.take i ++ Y ++ Z) i vs (by rw [hl0]; omega)
  obtain ⟨h2, o2⟩ := heap_setCells w.heap.size 9 (cs.drop i) (i + m) _ _ h1' (by rw [hl1, hl0, List.length_drop]; omega)
  have hfin : splice (splice (cs.take i ++ Y ++ Z) i vs) (i + m) (cs.drop i) = cs.take i ++ vs ++ cs.drop i ++ Z := by
    have hd : (cs.drop i).length = n - i := by rw [List.length_drop, hcl]
    have e := splice2' (cs.take i ++ Y ++ Z) (cs.drop i) vs i (by rw [hl0, hvl, hd]; omega)
    rw [hvl] at e
    have a1 : (cs.take i ++ Y ++ Z).take i = cs.take i := by rw [List.append_assoc]; exact List.take_left' hti
    have a2 : (cs.take i ++ Y ++ Z).drop (i + m + (cs.drop i).length) = Z := List.drop_left' (by rw [List.length_append, hti, hYl, hd]; omega)
    rw [e, a1, a2]
    simp only [List.append_assoc]
  rw [hfin] at h2
  refine ⟨G, Z, g1, g2, ?_, rfl, ?_, h2⟩
  · simp only [List.length_append, hti, hvl, hZl, List.length_drop]; omega
  · have o3 : Only (fun k => k = w.heap.size) w ((((w.alloc (.cells (cs.take i ++ Y ++ Z).toArray 9)).drew.setCells w.heap.size i vs).drew).setCells w.heap.size (i + m) (cs.drop i)) :=
      ((((Only.alloc _ w _).trans (Only.drew _ _)).trans o1).trans (Only.drew _ _)).trans o2
    exact o3.mono fun k hk e => by omega

theorem repl_row {B : Nat} {sv : Value} {W W2 : World} {k cap : Nat} {L : List Value} {qs : List ByteArray} {n : Nat} (hB : B ≤ k) (ho : Only (fun k => some k = sv.ownBlock) W W2) (hn : n = qs.length) (h : W2.heap[k]? = some (.cells L.toArray 9 (0, 0))) (hl : L.length = cap) (hc : n ≤ cap) (hm : cap ≤ maxLen) (ht : L.take qs.length = strs qs) (hk : sv.ownBlock = some k ∨ W.heap.size ≤ k) :
    Repl B sv W W2 (.slice (some ⟨k, 0, none⟩) n cap) qs := by
  subst hn
  exact ⟨row_of_block hB h hl hc hm ht, ho, hk.elim (fun e => .inl e.symm) fun e => .inr ⟨k, rfl, e⟩⟩

set_option maxHeartbeats 1000000 in
theorem insert_any (B : Nat) (sv vv : Value) (ps vs : List ByteArray) (i : Nat) (W : World) (hB : B ≤ W.heap.size) (hs : W.ownsRow B 9 1 sv ps.length (strs ps)) (hv : W.ownsRow B 9 1 vv vs.length (strs vs)) (hne : ∀ k, vv.ownBlock = some k → some k ≠ sv.ownBlock)
    (hm : 0 < vs.length) (hi : i ≤ ps.length) (hsz : ps.length + vs.length ≤ 1000000) :
    Calls Try.prog 145 #[sv, .int .i64 (i : Int), vv] W fun e W' => ∃ v', e = .returned v' ∧ Repl B sv W W' v' (ps.take i ++ vs ++ ps.drop i) := by
  obtain ⟨vb, vc, VL, rfl, hvB, hvh, hvc, hvm, hvl, hvt⟩ : ∃ k cap L, vv = .slice (some ⟨k, 0, none⟩) vs.length cap ∧ B ≤ k ∧ W.heap[k]? = some (.cells (List.toArray L) 9 (0, 0)) ∧ vs.length ≤ cap ∧ cap ≤ maxLen ∧ L.length = cap ∧ L.take vs.length = strs vs := by
    rcases row_open hv with ⟨_, rfl⟩ | h
    · simp at hm
    · exact h
  have hvcell := cells_of hvh hvt
  have hvn := hne vb rfl
  have hlen : ∀ qs : List ByteArray, (strs qs).length = qs.length := fun qs => by simp
  rcases row_open hs with ⟨rfl, rfl⟩ | ⟨k, cap, L, rfl, hkB, hh, hc, hcm, hL, ht⟩
  · obtain rfl : i = 0 := by simpa using hi
    refine (ins_end_grow none 0 0 vb vs.length vc [] (strs vs) W hm (Nat.le_refl _) (by omega) (by omega) rfl (hlen vs) (fun _ => rfl) (fun a e => by cases e) hvcell (oneCell_strs vs)).mono ?_
    rintro e W' ⟨G, Z, g1, g2, hl, rfl, rfl⟩
    exact ⟨_, rfl, repl_row (L := [] ++ strs vs ++ Z) hB ((Only.drew _ W).trans (Only.alloc _ _ _)) (by simp) (World.alloc_heap_new W.drew _) hl (by omega) g2 (by simp) (.inr (Nat.le_refl _))⟩
  · have hcell := cells_of hh ht
    have hkn : vb ≠ k := fun e => hvn (by rw [e]; rfl)
    have hkl := lt_of_heap hh
    by_cases hin : i = ps.length
    · subst hin
      by_cases hroom : ps.length + vs.length ≤ cap
      · refine (Any2.slices_Insert_string_end_room Try.laysNm222 k 0 ps.length cap vb 0 vs.length vc (strs vs) W hm hroom (by unfold maxLen at hcm; omega) (hlen vs) (fun j hj => by rw [Joins.cell_of_block hh]; simp; omega) (fun j hj => by simp [World.frozen?, hh]) hvcell (oneCell_strs vs)).mono ?_
        rintro e W' ⟨rfl, rfl⟩
        obtain ⟨h1, o1⟩ := heap_setCells k 9 (strs vs) (0 + ps.length) L W hh (by rw [hlen]; omega)
        refine ⟨_, rfl, repl_row (L := splice L (0 + ps.length) (strs vs)) hkB (o1.mono fun j _ e => by rw [e]; rfl) (by simp) h1 (by rw [length_splice _ _ _ (by rw [hlen]; omega), hL]) hroom hcm ?_ (.inl rfl)⟩
        have e3 : splice L (0 + ps.length) (strs vs) = (strs ps ++ strs vs) ++ L.drop (0 + ps.length + (strs vs).length) := by
          unfold splice; rw [Nat.zero_add, ht, List.append_assoc]
        rw [e3, List.take_left' (by simp)]
        simp
      · refine (ins_end_grow (some ⟨k, 0, none⟩) ps.length cap vb vs.length vc (strs ps) (strs vs) W hm hc (by omega) hsz (hlen ps) (hlen vs) (fun e => by cases e) (fun a e j v hj => by cases e; rw [Addr.add_lit]; exact hcell j v hj) hvcell (oneCell_strs vs)).mono ?_
        rintro e W' ⟨G, Z, g1, g2, hl, rfl, rfl⟩
        exact ⟨_, rfl, repl_row (L := strs ps ++ strs vs ++ Z) hB ((Only.drew _ W).trans (Only.alloc _ _ _)) (by simp) (World.alloc_heap_new W.drew _) hl (by omega) g2 (by rw [List.take_left' (by simp)]; simp) (.inr (Nat.le_refl _))⟩
    · have hil : i < ps.length := by omega
      by_cases hroom : ps.length + vs.length ≤ cap
      · have hsa : W.shape? vb = some (9, vc) := by simp [World.shape?, hvh, hvl]
        have hsb : W.shape? k = some (9, cap) := by simp [World.shape?, hh, hL]
        refine (Any2.slices_Insert_string_shift Try.laysNm222 k 0 ps.length cap i vb 0 vs.length vc (strs ps) (strs vs) W hil hm hroom (by unfold maxLen at hcm; omega) hkn (hlen ps) (hlen vs) hcell (fun j hj => by rw [Joins.cell_of_block hh]; simp; omega) (fun j hj => by simp [World.frozen?, hh]) hvcell (oneCell_strs ps) (oneCell_strs vs) 9 9 vc cap hsa hsb (by omega) (by simp [World.frozen?, hvh]) (by simp [World.frozen?, hvh])).mono ?_
        rintro e W' ⟨rfl, rfl⟩
        have hh' : W.drew.heap[k]? = some (.cells L.toArray 9 (0, 0)) := hh
        have hdl : ((strs ps).drop i).length = ps.length - i := by simp
        obtain ⟨h1, o1⟩ := heap_setCells k 9 ((strs ps).drop i) (0 + (i + vs.length)) L W.drew hh' (by rw [hdl]; omega)
        have hl1 := length_splice L (0 + (i + vs.length)) ((strs ps).drop i) (by rw [hdl]; omega)
        obtain ⟨h2, o2⟩ := heap_setCells k 9 (strs vs) (0 + i) _ _ h1 (by rw [hl1, hlen]; omega)
        refine ⟨_, rfl, repl_row (L := splice (splice L (0 + (i + vs.length)) ((strs ps).drop i)) (0 + i) (strs vs)) hkB ((((Only.drew _ W).trans o1).trans o2).mono fun j _ e => by rw [e]; rfl) (by simp; omega) h2 (by rw [length_splice _ _ _ (by rw [hl1, hlen]; omega), hl1, hL]) hroom hcm ?_ (.inl rfl)⟩
        have e2 := splice2 L ((strs ps).drop i) (strs vs) i (by rw [hdl, hlen]; omega)
        rw [hlen] at e2
        rw [Nat.zero_add, Nat.zero_add, e2]
        have e3 : L.take i = (strs ps).take i := by rw [← ht, List.take_take]; congr 1; omega
        rw [e3, ← List.append_assoc, ← List.append_assoc, List.take_left' (by simp)]
        simp [strs, List.map_take, List.map_drop]
      · refine (ins_grow k ps.length cap i vb vs.length vc (strs ps) (strs vs) W hil hm hc (by omega) hsz (hlen ps) (hlen vs) hcell hvcell (oneCell_strs ps) (oneCell_strs vs)).mono ?_
        rintro e W' ⟨G, Z, g1, g2, hl, rfl, o, h⟩
        refine ⟨_, rfl, repl_row (L := (strs ps).take i ++ strs vs ++ (strs ps).drop i ++ Z) hB (o.mono fun _ _ e => e.elim) (by simp; omega) h hl (by omega) g2 ?_ (.inr (Nat.le_refl _))⟩
        rw [List.take_append_of_le_length (by simp), List.take_of_length_le (by simp)]
        simp [strs, List.map_take, List.map_drop]

end Go.Proofs.Ytpmijaplkbmbiaa
