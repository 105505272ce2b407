/- slices.Replace at this program: rows of texts. -/
import Derived.Test.YtpmijaplkbmbiaaInsert
import Derived.Deep.CutRange
namespace Go.Proofs.Ytpmijaplkbmbiaa
open Go.RowKit Go.By Go.Shelf
set_option linter.unusedVariables false

/-- What came as v...: nil where there is nothing; else a row in another block. -/
def Src (W : World) (va : Option Addr) (k : Nat) (vs : List ByteArray) : Prop :=
  0 < vs.length → ∃ vb VL, va = some ⟨vb, 0, none⟩ ∧ vb ≠ k ∧ W.heap[vb]? = some (.cells (List.toArray VL) 9 (0, 0)) ∧ VL.take vs.length = strs vs

theorem Src.cells {W : World} {va : Option Addr} {k : Nat} {vs : List ByteArray} (h : Src W va k vs) (hm : 0 < (strs vs).length) : ∃ ad, va = some ad ∧ ad.block ≠ k ∧ ad.block < W.heap.size ∧ ∀ x y, (strs vs)[x]? = some y → W.cell? (ad.add x) = some y := by
  obtain ⟨vb, VL, rfl, hne, hh, ht⟩ := h (by simpa using hm)
  exact ⟨_, rfl, hne, lt_of_heap hh, fun x y hx => by rw [Addr.add_lit]; exact cells_of hh ht x y hx⟩

theorem copy_row {P : Program} (w : World) (dT sT elem : TypeId) (hu : P.underlying dT = some (.slice elem)) (hsz : (P.info? elem).map (·.size) = some 1) (g o dLen dCap : Nat) (ad : Addr) (sLen sCap : Nat) (cur : List Value) (t : TypeId) (hg : w.heap[g]? = some (.cells cur.toArray t (0, 0))) (cs : List Value)
    (hn : cs.length = Nat.min sLen dLen) (hsrc : ∀ j v, cs[j]? = some v → w.cell? (ad.add j) = some v) (hfit : o + cs.length ≤ cur.length) (h1 : ∀ v ∈ cs, v.oneCell' = true) :
    ∃ w', (∀ ty, (Builtin.copy_ #[dT, sT] ty #[.slice (some ⟨g, o, none⟩) dLen dCap, .slice (some ad) sLen sCap]).run P w = .ok (goInt cs.length) w') ∧ w'.heap[g]? = some (.cells (splice cur o cs).toArray t (0, 0)) ∧ Only (fun k => k = g) w w' := by
  refine ⟨_, fun ty => run_copy_row (P := P) w dT sT ty elem g o dLen dCap ad sLen sCap cur.toArray t cs hu hsz hg hn hsrc (by simpa using hfit) h1, ?_, Only.setRow w g _ rfl⟩
  simpa [splice] using setRow_heap w g _ _ t _ hg

theorem copy_any {P : Program} (w : World) (dT sT elem : TypeId) (hu : P.underlying dT = some (.slice elem)) (hsz : (P.info? elem).map (·.size) = some 1) (dp : Option Addr) (g o dLen dCap : Nat) (sp : Option Addr) (sLen sCap : Nat) (cur : List Value) (t : TypeId) (hg : w.heap[g]? = some (.cells cur.toArray t (0, 0))) (cs : List Value)
    (hn : cs.length = Nat.min sLen dLen) (hpos : 0 < cs.length → dp = some ⟨g, o, none⟩ ∧ ∃ ad, sp = some ad ∧ ∀ j v, cs[j]? = some v → w.cell? (ad.add j) = some v) (hfit : o + cs.length ≤ cur.length) (h1 : ∀ v ∈ cs, v.oneCell' = true) :
    ∃ w', (∀ ty, (Builtin.copy_ #[dT, sT] ty #[.slice dp dLen dCap, .slice sp sLen sCap]).run P w = .ok (goInt cs.length) w') ∧ w'.heap[g]? = some (.cells (splice cur o cs).toArray t (0, 0)) ∧ Only (fun k => k = g) w w' := by
  by_cases h0 : cs.length = 0
  · obtain rfl : cs = [] := List.eq_nil_of_length_eq_zero h0
    exact ⟨w, fun ty => run_copy_none (P := P) w dT sT ty elem dp sp dLen dCap sLen sCap hu hsz (by simpa using hn.symm), by simpa [splice] using hg, Only.refl _ w⟩
  · obtain ⟨rfl, ad, rfl, hsrc⟩ := hpos (by omega)
    exact copy_row w dT sT elem hu hsz g o dLen dCap ad sLen sCap cur t hg cs hn hsrc hfit h1

theorem src_cells {W : World} {k o : Nat} {L : List Value} (hh : W.heap[k]? = some (.cells L.toArray 9 (0, 0))) {n : Nat} : ∀ j v, ((L.drop o).take n)[j]? = some v → W.cell? ((⟨k, o, none⟩ : Addr).add j) = some v := by
  intro j v hj
  rw [Addr.add_lit, Joins.cell_of_block hh]
  rw [List.getElem?_take] at hj
  split at hj
  · rw [List.getElem?_drop] at hj; simpa using hj
  · cases hj

theorem clear_none {P : Program} (w : World) (t e : TypeId) (ht : P.underlying t = some (.slice e)) (a : Option Addr) (c : Nat) : ∀ ty, (Builtin.clear_ #[t] ty #[.slice a 0 c]).run P w = .ok (.tuple #[]) w := by
  intro ty
  cases a <;> simp [Builtin.clear_, run_underlying ht]

set_option maxRecDepth 100000 in
set_option maxHeartbeats 4000000 in
/-- i < j < len(s), and there is no room: a new row. -/
theorem replace_fits (B k cap i j : Nat) (L : List Value) (ps vs : List ByteArray) (va : Option Addr) (vc : Nat) (W : World) (hB : B ≤ W.heap.size) (hkB : B ≤ k) (hh : W.heap[k]? = some (.cells L.toArray 9 (0, 0))) (hc : ps.length ≤ cap) (hcm : cap ≤ maxLen) (hL : L.length = cap) (ht : L.take ps.length = strs ps)
    (hsrc : Src W va k vs) (hij : i < j) (hj : j < ps.length) (hsz : ps.length + vs.length ≤ 1000000)
    (hroom : i + vs.length + (ps.length - j) ≤ cap) (hfit : i + vs.length ≤ j) :
    Calls Try.prog 122 #[.slice (some ⟨k, 0, none⟩) ps.length cap, .int .i64 (i : Int), .int .i64 (j : Int), .slice va vs.length vc] W fun e W' => ∃ v', e = .returned v' ∧ Repl B (.slice (some ⟨k, 0, none⟩) ps.length cap) W W' v' (ps.take i ++ vs ++ ps.drop j) := by
  obtain ⟨qs, hqs⟩ : ∃ qs, qs = ps.take i ++ vs ++ ps.drop j := ⟨_, rfl⟩
  rw [← hqs]
  have HQ := hide hqs
  clear hqs
  have b1 : (i : Int) ≤ (j : Int) := by omega
  have b2 : (j : Int) ≤ (cap : Int) := by omega
  have b3 : ¬ (i : Int) = (j : Int) := by omega
  have b4 : ¬ (j : Int) = (ps.length : Int) := by omega
  have b5 : i ≤ cap := by omega
  have b6 : j ≤ cap := by omega
  have b7 : (i : Int) ≤ (cap : Int) := by omega
  have b8 : (j : Int) ≤ (ps.length : Int) := by omega
  have HH := hide hh
  have HV := hide hsrc
  have HT := hide ht
  clear hh hsrc ht
  go_enter Try.func122, Try.ntmps122
  have b9 : ps.length - j ≤ ps.length := by omega
  obtain ⟨T, hT⟩ : ∃ T, i + vs.length + (ps.length - j) = T := ⟨_, rfl⟩
  have c1 : (i : Int) + (vs.length : Int) + ((ps.length - j : Nat) : Int) = (T : Int) := by omega
  have c2 : ¬ (cap : Int) < (T : Int) := by omega
  have c3 : (T : Int) ≤ (cap : Int) := by omega
  have c4 : T ≤ cap := by omega
  have c5 : (i : Int) + (vs.length : Int) ≤ (j : Int) := by omega
  have HTT := hide hT
  clear hT
  go_wp2_with fail
  go_quiet (fail)
  have hcap2 : ¬ cap = i := by omega
  obtain ⟨W2, hcp, hk2, ho2⟩ := copy_any (P := Try.prog) (W.drewN nq) 29 29 9 Try.underlying29 (by kernel_rfl) (some ⟨k, i, none⟩) k i (T - i) (cap - i) va vs.length vc L 9 HH.out (strs vs) (by have := HTT.out; simp only [List.length_map, Nat.min_def]; split <;> omega) (fun hm => ⟨rfl, by obtain ⟨ad, e, _, _, hc⟩ := HV.out.cells hm; exact ⟨ad, e, hc⟩⟩) (by simp; omega) (oneCell_strs vs)
  have HK2 := hide hk2
  have HO2 := hide ho2
  have hpl : (strs ps).length = ps.length := by simp
  have hvl2 : (strs vs).length = vs.length := by simp
  have hls := length_splice L i (strs vs) (by rw [hvl2]; omega)
  obtain ⟨D, hD⟩ : ∃ D, D = ((splice L i (strs vs)).drop j).take (ps.length - j) := ⟨_, rfl⟩
  have hDl : D.length = ps.length - j := by rw [hD, List.length_take, List.length_drop, hls, hL]; omega
  have hDs : D = strs (ps.drop j) := by
    rw [hD]
    have e1 : (splice L i (strs vs)).drop j = L.drop j := by
      have e2 := splice_drop L i (strs vs) (by rw [hvl2]; omega)
      rw [hvl2] at e2
      rw [show j = (i + vs.length) + (j - (i + vs.length)) by omega, ← List.drop_drop, e2, List.drop_drop]
    rw [e1, ← List.drop_take, HT.out]; simp [strs]
  have hsp : ∀ x y, D[x]? = some y → W2.drew.cell? ((⟨k, j, none⟩ : Addr).add x) = some y := by rw [hD]; exact src_cells (W := W2.drew) hk2
  have HSP := hide hsp
  have HDS := hide hDs
  have HD1 : Hid (∀ y ∈ D, y.oneCell' = true) := hide (by rw [hDs]; exact oneCell_strs _)
  have w1 : IntKind.i64.wrap ((i : Int) + (vs.length : Int)) = (i : Int) + (vs.length : Int) := by rw [IntKind.wrap_i64]; omega
  have w2 : ((i : Int) + (vs.length : Int)).toNat = i + vs.length := by omega
  have w3 : (0 : Int) ≤ (i : Int) + (vs.length : Int) := by omega
  have w4 : (i : Int) + (vs.length : Int) ≤ (T : Int) := by have := HTT.out; omega
  have w5 : ¬ cap = i + vs.length := by omega
  have w6 : ¬ cap = j := by omega
  clear hk2 ho2 hD hDs hsp
  go_wp2_with fail
  clear hcp
  go_cut [] from 15 to 223 (fun wc => wc.heap[k]? = some (.cells (splice (splice L i (strs vs)) (i + vs.length) D).toArray 9 (0, 0)) ∧ Only (fun x => x = k) W2 wc)
  case first =>
    go_region_law (refine step_copy_row rfl (.tmp 103) (.tmp 106) 29 29 rfl 9 Try.underlying29 (by kernel_rfl) (some ⟨k, i + vs.length, none⟩) (some ⟨k, j, none⟩) (T - (i + vs.length)) (cap - (i + vs.length)) (ps.length - j) (cap - j) (by simp [Act.eval, Act.put]) (by simp [Act.eval, Act.put]) k (i + vs.length) (splice L i (strs vs)) 9 HK2.out D (by have := HTT.out; rw [hDl]; simp only [Nat.min_def]; split <;> omega) (fun _ => ⟨rfl, _, rfl, HSP.out⟩) (by rw [hls, hDl, hL]; have := HTT.out; omega) HD1.out ?_; intro w9 hk9 ho9)
    all_goals (go_wp2_with fail; go_meet; exact ⟨hk9, (Only.drew _ W2).trans ho9⟩)
  case rest =>
    obtain ⟨hk3, ho3⟩ := hcut
    have hfin := splice2' L D (strs vs) i (by rw [hvl2, hDl, hL]; omega)
    rw [hvl2] at hfin
    rw [hfin] at hk3
    have hl3 : (L.take i ++ (strs vs ++ (D ++ L.drop (i + vs.length + D.length)))).length = cap := by simp only [List.length_append, List.length_take, hvl2, hDl, List.length_drop, hL]; omega
    have ho : Only (fun x => some x = some k) W wc := (((Only.drewN _ W nq).trans HO2.out).trans ho3).mono fun x _ e => by rw [e]
    have htk : (L.take i ++ (strs vs ++ (D ++ L.drop (i + vs.length + D.length)))).take T = strs qs := by
      rw [HQ.out]
      have e3 : L.take i = (strs ps).take i := by rw [← HT.out, List.take_take]; congr 1; omega
      rw [e3, ← List.append_assoc, ← List.append_assoc, List.take_left' (by simp only [List.length_append, List.length_take, hpl, hvl2, hDl]; have := HTT.out; omega), HDS.out]
      simp [strs, List.map_take]
    have hql : qs.length = T := by rw [HQ.out]; have := HTT.out; simp; omega
    by_cases hz : ps.length = T
    · have hcl := clear_none (P := Try.prog) wc 29 9 Try.underlying29
      have HF := hide (repl_row (sv := .slice (some ⟨k, 0, none⟩) ps.length cap) hkB ho hql.symm hk3 hl3 c4 hcm (by rw [hql]; exact htk) (.inl rfl))
      have HK3 := hide hk3
      clear hk3 ho htk ho3 hl3 hfin hql
      subst hz
      by_cases hcc : cap = ps.length
      · subst hcc
        go_wp2
        go_ret
        exact ⟨_, rfl, HF.out⟩
      · go_wp2
        go_ret
        exact ⟨_, rfl, HF.out⟩
    · have hlt : T < ps.length := by have := HTT.out; omega
      have hlt' : (T : Int) ≤ (ps.length : Int) := by omega
      have hcT : ¬ cap = T := by omega
      obtain ⟨W4, hclr, hk4, ho4⟩ := clear_row (P := Try.prog) wc 29 9 (.string ⟨#[]⟩) Try.underlying29 Try.zeroValue9 rfl rfl k T (ps.length - T) (cap - T) (by omega) _ 9 hk3 (by rw [List.size_toArray, hl3]; omega)
      have HF := hide (repl_row (sv := .slice (some ⟨k, 0, none⟩) ps.length cap) (L := splice (L.take i ++ (strs vs ++ (D ++ L.drop (i + vs.length + D.length)))) T (List.replicate (ps.length - T) (.string ⟨#[]⟩))) hkB (ho.trans (ho4.mono fun x _ e => by rw [e])) hql.symm hk4 (by rw [length_splice _ _ _ (by rw [hl3, List.length_replicate]; omega), hl3]) c4 hcm (by rw [hql, splice_take _ _ _ (by rw [hl3, List.length_replicate]; omega)]; exact htk) (.inl rfl))
      clear hk3 ho htk ho3 hl3 hfin hql hk4 ho4 hz
      go_wp2
      go_ret
      exact ⟨_, rfl, HF.out⟩

end Go.Proofs.Ytpmijaplkbmbiaa
