/- slices.Replace at this program: there is no room. -/
import Derived.Test.YtpmijaplkbmbiaaReplace2
import Derived.Lib.JoinLaws
import Derived.Lib.AppendZeros
namespace Go.Proofs.Ytpmijaplkbmbiaa
open Go.RowKit Go.By Go.Shelf
set_option linter.unusedVariables false

theorem add_block (a : Addr) (x : Nat) : (a.add x).block = a.block := by unfold Addr.add; split <;> rfl

set_option maxRecDepth 100000 in
set_option maxHeartbeats 4000000 in
/-- i < j < len(s), and there is no room: a new row. -/
theorem replace_grow (B k cap i j : Nat) (L : List Value) (ps vs : List ByteArray) (va : Option Addr) (vc : Nat) (W : World) (hB : B ≤ W.heap.size) (hkB : B ≤ k) (hh : W.heap[k]? = some (.cells L.toArray 9 (0, 0))) (hc : ps.length ≤ cap) (hcm : cap ≤ maxLen) (hL : L.length = cap) (ht : L.take ps.length = strs ps)
    (hsrc : Src W va k vs) (hij : i < j) (hj : j < ps.length) (hsz : ps.length + vs.length ≤ 1000000)
    (hroom : cap < i + vs.length + (ps.length - j)) :
    Calls Try.prog 122 #[.slice (some ⟨k, 0, none⟩) ps.length cap, .int .i64 (i : Int), .int .i64 (j : Int), .slice va vs.length vc] W fun e W' => ∃ v', e = .returned v' ∧ Repl B (.slice (some ⟨k, 0, none⟩) ps.length cap) W W' v' (ps.take i ++ vs ++ ps.drop j) := by
  obtain ⟨qs, hqs⟩ : ∃ qs, qs = ps.take i ++ vs ++ ps.drop j := ⟨_, rfl⟩
  rw [← hqs]
  have HQ := hide hqs
  clear hqs
  have b1 : (i : Int) ≤ (j : Int) := by omega
  have b2 : (j : Int) ≤ (cap : Int) := by omega
  have b3 : ¬ (i : Int) = (j : Int) := by omega
  have b4 : ¬ (j : Int) = (ps.length : Int) := by omega
  have b5 : i ≤ cap := by omega
  have b6 : j ≤ cap := by omega
  have b7 : (i : Int) ≤ (cap : Int) := by omega
  have b8 : (j : Int) ≤ (ps.length : Int) := by omega
  have HH := hide hh
  have HV := hide hsrc
  have HT := hide ht
  clear hh hsrc ht
  go_enter Try.func122, Try.ntmps122
  have b9 : ps.length - j ≤ ps.length := by omega
  obtain ⟨T, hT⟩ : ∃ T, i + vs.length + (ps.length - j) = T := ⟨_, rfl⟩
  have c1 : (i : Int) + (vs.length : Int) + ((ps.length - j : Nat) : Int) = (T : Int) := by omega
  have c2 : (cap : Int) < (T : Int) := by omega
  have c5 : (T : Int) - (i : Int) = ((T - i : Nat) : Int) := by omega
  have HTT := hide hT
  clear hT
  go_wp2_with fail
  go_quiet (fail)
  have hpl : (strs ps).length = ps.length := by simp
  have hvl2 : (strs vs).length = vs.length := by simp
  have w1 : IntKind.i64.wrap ((i : Int) + (vs.length : Int)) = (i : Int) + (vs.length : Int) := by rw [IntKind.wrap_i64]; omega
  have w2 : ((i : Int) + (vs.length : Int)).toNat = i + vs.length := by omega
  have w3 : (0 : Int) ≤ (i : Int) + (vs.length : Int) := by omega
  have w4 : (i : Int) + (vs.length : Int) ≤ (T : Int) := by have := HTT.out; omega
  have w6 : ¬ cap = j := by omega
  have hTi : i + (T - i) = T := by have := HTT.out; omega
  have hT1 : T ≤ 1000000 := by have := HTT.out; omega
  have w7 : (i : Int) ≤ (T : Int) := by have := HTT.out; omega
  have w8 : i ≤ T := by have := HTT.out; omega
  obtain ⟨i0, hi, hz0, hz1, hz2⟩ := info_parts Try.info9
  have hiL : (L.take i).length = i := by rw [List.length_take]; omega
  have hold : (Builtin.firstCells i0.size i (.slice (some ⟨k, 0, none⟩) i cap)).run Try.prog (W.drewN nq).drew = .ok (L.take i).toArray (W.drewN nq).drew := by
    rw [hz1]
    exact run_firstCells_some (W.drewN nq).drew 1 i ⟨k, 0, none⟩ i cap (L.take i) (by omega) (fun x v hx => by
      rw [Addr.add_lit, Nat.zero_add]
      have : (W.drewN nq).drew.heap[k]? = some (.cells L.toArray 9 (0, 0)) := HH.out
      rw [Joins.cell_of_block this]
      rw [List.getElem?_take] at hx
      split at hx
      · simpa using hx
      · cases hx)
  have hrz : ∀ ty, (Builtin.append_ #[29, 3] ty #[.slice (some ⟨k, 0, none⟩) i cap, .int .i64 ((T - i : Nat) : Int)]).run Try.prog (W.drewN nq) =
      .ok (.slice (some ⟨W.heap.size, 0, none⟩) T (grownCap (W.drewN nq) T cap 9)) ((W.drewN nq).drew.alloc (.cells ((L.take i).toArray ++ Builtin.zeroCells (Value.string ⟨#[]⟩).cells (T - i) ++ Builtin.zeroCells (Value.string ⟨#[]⟩).cells (grownCap (W.drewN nq) T cap 9 - T)) 9)) := fun ty => by
    have h := Lib.run_append_grow_zeros (W.drewN nq) 29 3 ty 9 i0 _ .i64 .i64 Try.underlying29 Try.underlying3 hi hz0 (some ⟨k, 0, none⟩) i cap (L.take i) hold (T - i) (by omega) (by omega) (by omega) (by omega) (by rw [hz2]; omega) (by rw [hz2, hTi]; exact growslice_fits (by omega) (by omega))
    rw [hTi] at h
    exact h
  have hG : T ≤ grownCap (W.drewN nq) T cap 9 ∧ grownCap (W.drewN nq) T cap 9 ≤ maxLen := ⟨grownCap_ge _ _ _ _, grownCap_le_maxLen _ T cap 9 (by unfold maxLen; omega)⟩
  generalize grownCap (W.drewN nq) T cap 9 = G at hrz hG
  obtain ⟨R, hR⟩ : ∃ R : List Value, R = L.take i ++ ((Builtin.zeroCells (Value.string ⟨#[]⟩).cells (T - i)).toList ++ (Builtin.zeroCells (Value.string ⟨#[]⟩).cells (G - T)).toList) := ⟨_, rfl⟩
  have hRl : R.length = G := by rw [hR, List.length_append, List.length_append, zeroCells_len, zeroCells_len, hiL]; omega
  have hRi : R.take i = L.take i := by rw [hR]; exact List.take_left' hiL
  have hRR : (L.take i).toArray ++ Builtin.zeroCells (Value.string ⟨#[]⟩).cells (T - i) ++ Builtin.zeroCells (Value.string ⟨#[]⟩).cells (G - T) = R.toArray := by apply Array.ext'; simp [hR]
  rw [hRR] at hrz
  have h0 : ((W.drewN nq).drew.alloc (.cells R.toArray 9)).heap[W.heap.size]? = some (.cells R.toArray 9 (0, 0)) := World.alloc_heap_new (W.drewN nq).drew _
  have o0 : Only (fun _ => False) W ((W.drewN nq).drew.alloc (.cells R.toArray 9)) := ((Only.drewN _ W nq).trans (Only.drew _ _)).trans (Only.alloc _ _ _)
  generalize (W.drewN nq).drew.alloc (.cells R.toArray 9) = W1 at hrz h0 o0
  have hkl := lt_of_heap HH.out
  have hk1 : W1.heap[k]? = some (.cells L.toArray 9 (0, 0)) := (o0.block k hkl (fun e => e)).trans HH.out
  have g1 := hG.1
  have g2 := hG.2
  have g3 : (i : Int) ≤ (G : Int) := by omega
  have g4 : i ≤ G := by omega
  have g5 : i + vs.length ≤ G := by have := HTT.out; omega
  have hGi : ¬ G = i := by have := HTT.out; omega
  have hGv : ¬ G = i + vs.length := by have := HTT.out; omega
  obtain ⟨W2, hcp, hk2, ho2⟩ := copy_any (P := Try.prog) W1 29 29 9 Try.underlying29 (by kernel_rfl) (some ⟨W.heap.size, i, none⟩) W.heap.size i (T - i) (G - i) va vs.length vc R 9 h0 (strs vs) (by have := HTT.out; simp only [List.length_map, Nat.min_def]; split <;> omega) (fun hm => ⟨rfl, by
      obtain ⟨ad, e, _, hlt, hc⟩ := HV.out.cells hm
      refine ⟨ad, e, fun x y hx => ?_⟩
      have := hc x y hx
      rw [← this]
      exact World.cell?_of_block (o0.block _ (by rw [add_block]; exact hlt) (fun e => e))⟩) (by rw [hRl, hvl2]; exact g5) (oneCell_strs vs)
  have hls := length_splice R i (strs vs) (by rw [hRl, hvl2]; exact g5)
  have hkk2 : W2.heap[k]? = some (.cells L.toArray 9 (0, 0)) := (ho2.block k (lt_of_heap hk1) (by omega)).trans hk1
  obtain ⟨D, hD⟩ : ∃ D, D = (L.drop j).take (ps.length - j) := ⟨_, rfl⟩
  have hDl : D.length = ps.length - j := by rw [hD, List.length_take, List.length_drop, hL]; omega
  have hDs : D = strs (ps.drop j) := by rw [hD, ← List.drop_take, HT.out]; simp [strs]
  have hsp : ∀ x y, D[x]? = some y → W2.drew.cell? ((⟨k, j, none⟩ : Addr).add x) = some y := by rw [hD]; exact src_cells (W := W2.drew) hkk2
  have HSP := hide hsp
  have HDS := hide hDs
  have HD1 : Hid (∀ y ∈ D, y.oneCell' = true) := hide (by rw [hDs]; exact oneCell_strs _)
  have HK2 := hide hk2
  have HO : Hid (Only (fun k => k = W.heap.size) W W2) := hide ((o0.mono fun _ _ e => e.elim).trans ho2)
  clear hD hDs hsp hk2 ho2 hkk2 hk1 o0 h0 hold hRR hR hG
  have hrz2 : ∀ (z : Int) (ty : TypeId), z = ((T - i : Nat) : Int) → (Builtin.append_ #[29, 3] ty #[.slice (some ⟨k, 0, none⟩) i cap, .int .i64 z]).run Try.prog (W.drewN nq) = .ok (.slice (some ⟨W.heap.size, 0, none⟩) T G) W1 := fun z ty hz => by rw [hz]; exact hrz ty
  clear hrz c5
  go_wp2_with (at_builtin; refine Lib.wpList_append_run _ rfl _ _ 29 3 rfl _ _ rfl rfl _ _ (hrz2 _ _ (by omega)) ?_; clear hrz2)
  clear hcp
  go_cut [] from 15 to 223 (fun wc => wc.heap[W.heap.size]? = some (.cells (splice (splice R i (strs vs)) (i + vs.length) D).toArray 9 (0, 0)) ∧ Only (fun x => x = W.heap.size) W2 wc)
  case first =>
    go_region_law (refine step_copy_row rfl (.tmp 78) (.tmp 81) 29 29 rfl 9 Try.underlying29 (by kernel_rfl) (some ⟨W.heap.size, i + vs.length, none⟩) (some ⟨k, j, none⟩) (T - (i + vs.length)) (G - (i + vs.length)) (ps.length - j) (cap - j) (by simp [Act.eval, Act.put]) (by simp [Act.eval, Act.put]) W.heap.size (i + vs.length) (splice R i (strs vs)) 9 HK2.out D (by have := HTT.out; rw [hDl]; simp only [Nat.min_def]; split <;> omega) (fun _ => ⟨rfl, _, rfl, HSP.out⟩) (by rw [hls, hDl, hRl]; have := HTT.out; omega) HD1.out ?_; intro w9 hk9 ho9)
    all_goals (go_wp2_with fail; go_meet; exact ⟨hk9, (Only.drew _ W2).trans ho9⟩)
  case rest =>
    obtain ⟨hk3, ho3⟩ := hcut
    have hfin := splice2' R D (strs vs) i (by rw [hvl2, hDl, hRl]; have := HTT.out; omega)
    rw [hvl2] at hfin
    rw [hfin] at hk3
    have hl3 : (R.take i ++ (strs vs ++ (D ++ R.drop (i + vs.length + D.length)))).length = G := by have := HTT.out; simp only [List.length_append, List.length_take, hvl2, hDl, List.length_drop, hRl]; omega
    have ho : Only (fun x => some x = some k) W wc := (HO.out.trans ho3).mono fun x hx e => by omega
    have htk : (R.take i ++ (strs vs ++ (D ++ R.drop (i + vs.length + D.length)))).take T = strs qs := by
      rw [HQ.out, hRi]
      have e3 : L.take i = (strs ps).take i := by rw [← HT.out, List.take_take]; congr 1; omega
      rw [e3, ← List.append_assoc, ← List.append_assoc, List.take_left' (by simp only [List.length_append, List.length_take, hpl, hvl2, hDl]; have := HTT.out; omega), HDS.out]
      simp [strs, List.map_take]
    have hql : qs.length = T := by rw [HQ.out]; have := HTT.out; simp; omega
    have HF := hide (repl_row (sv := .slice (some ⟨k, 0, none⟩) ps.length cap) hB ho hql.symm hk3 hl3 g1 g2 (by rw [hql]; exact htk) (.inr (Nat.le_refl _)))
    clear hk3 ho htk ho3 hl3 hfin hql
    go_wp2
    go_ret
    exact ⟨_, rfl, HF.out⟩

end Go.Proofs.Ytpmijaplkbmbiaa
