/- slices.Replace at this program: there is room, and what comes is longer than what goes. -/
import Derived.Test.YtpmijaplkbmbiaaReplace
namespace Go.Proofs.Ytpmijaplkbmbiaa
open Go.RowKit Go.By Go.Shelf
set_option linter.unusedVariables false

theorem shape_of {W : World} {k cap : Nat} {L : List Value} (h : W.heap[k]? = some (.cells L.toArray 9 (0, 0))) (hl : L.length = cap) (q : Nat) : (W.drewN q).shape? k = some (9, cap) := by
  show W.shape? k = _
  simp [World.shape?, h, hl]

theorem frozen_ofQ {W : World} {k : Nat} {L : List Value} (h : W.heap[k]? = some (.cells L.toArray 9 (0, 0))) (o q : Nat) : (W.drewN q).frozen? ⟨k, o, none⟩ = false := by
  show W.frozen? _ = _
  simp [World.frozen?, h]

set_option maxRecDepth 100000 in
set_option maxHeartbeats 4000000 in
/-- i < j < len(s), there is room, and v is longer than what goes. -/
theorem replace_wide (B k cap i j : Nat) (L : List Value) (ps vs : List ByteArray) (va : Option Addr) (vc : Nat) (W : World) (hB : B ≤ W.heap.size) (hkB : B ≤ k) (hh : W.heap[k]? = some (.cells L.toArray 9 (0, 0))) (hc : ps.length ≤ cap) (hcm : cap ≤ maxLen) (hL : L.length = cap) (ht : L.take ps.length = strs ps)
    (hsrc : Src W va k vs) (hij : i < j) (hj : j < ps.length) (hsz : ps.length + vs.length ≤ 1000000)
    (hroom : i + vs.length + (ps.length - j) ≤ cap) (hwide : j < i + vs.length) :
    Calls Try.prog 122 #[.slice (some ⟨k, 0, none⟩) ps.length cap, .int .i64 (i : Int), .int .i64 (j : Int), .slice va vs.length vc] W fun e W' => ∃ v', e = .returned v' ∧ Repl B (.slice (some ⟨k, 0, none⟩) ps.length cap) W W' v' (ps.take i ++ vs ++ ps.drop j) := by
  obtain ⟨qs, hqs⟩ : ∃ qs, qs = ps.take i ++ vs ++ ps.drop j := ⟨_, rfl⟩
  rw [← hqs]
  have HQ := hide hqs
  clear hqs
  have b1 : (i : Int) ≤ (j : Int) := by omega
  have b2 : (j : Int) ≤ (cap : Int) := by omega
  have b3 : ¬ (i : Int) = (j : Int) := by omega
  have b4 : ¬ (j : Int) = (ps.length : Int) := by omega
  have b5 : i ≤ cap := by omega
  have b6 : j ≤ cap := by omega
  have b7 : (i : Int) ≤ (cap : Int) := by omega
  have b8 : (j : Int) ≤ (ps.length : Int) := by omega
  have HH := hide hh
  have HV := hide hsrc
  have HT := hide ht
  clear hh hsrc ht
  go_enter Try.func122, Try.ntmps122
  have b9 : ps.length - j ≤ ps.length := by omega
  obtain ⟨T, hT⟩ : ∃ T, i + vs.length + (ps.length - j) = T := ⟨_, rfl⟩
  have c1 : (i : Int) + (vs.length : Int) + ((ps.length - j : Nat) : Int) = (T : Int) := by omega
  have c2 : ¬ (cap : Int) < (T : Int) := by omega
  have c3 : (T : Int) ≤ (cap : Int) := by omega
  have c4 : T ≤ cap := by omega
  have c5 : ¬ (i : Int) + (vs.length : Int) ≤ (j : Int) := by omega
  have HTT := hide hT
  clear hT
  go_wp2_with fail
  go_quiet (fail)
  have hcap2 : ¬ cap = i := by omega
  have hpl : (strs ps).length = ps.length := by simp
  have hvl2 : (strs vs).length = vs.length := by simp
  obtain ⟨vb, VL, hva, hvk, hvh, hvt⟩ := HV.out (by omega)
  subst hva
  have w1 : IntKind.i64.wrap ((i : Int) + (vs.length : Int)) = (i : Int) + (vs.length : Int) := by rw [IntKind.wrap_i64]; omega
  have w2 : ((i : Int) + (vs.length : Int)).toNat = i + vs.length := by omega
  have w3 : (0 : Int) ≤ (i : Int) + (vs.length : Int) := by omega
  have w4 : (i : Int) + (vs.length : Int) ≤ (T : Int) := by have := HTT.out; omega
  have w5 : ¬ cap = i + vs.length := by have := HTT.out; omega
  have w6 : ¬ cap = j := by omega
  have hov : ∀ lb cb, (callFunc 146 #[.slice (some ⟨k, i + vs.length, none⟩) lb cb, .slice (some ⟨vb, 0, none⟩) vs.length vc]).run Try.prog (W.drewN nq) = .ok (.value (.bool false)) (W.drewN nq) := fun lb cb => by
    rw [run_callFunc_extern Try.func146 (by kernel_rfl) (by kernel_rfl) (by kernel_rfl) (e := Extern.SlicesOverlaps.overlaps #[29, 29] #[4]) (by kernel_rfl),
      Lib.run_overlaps_apart (W.drewN nq) 29 4 9 Try.underlying29 1 Try.sizeOf9 ⟨k, i + vs.length, none⟩ ⟨vb, 0, none⟩ lb cb vs.length vc (Ne.symm hvk) 9 9 cap VL.length (shape_of HH.out hL nq) (shape_of hvh rfl nq) (by intro e; have : VL = [] := List.length_eq_zero_iff.1 e; rw [this] at hvt; have h5 := congrArg List.length hvt; simp at h5; omega) (frozen_ofQ HH.out _ nq) (frozen_ofQ HH.out _ nq)]
    rfl
  obtain ⟨D, hD⟩ : ∃ D, D = (L.drop j).take (ps.length - j) := ⟨_, rfl⟩
  have hDl : D.length = ps.length - j := by rw [hD, List.length_take, List.length_drop, hL]; omega
  have hDs : D = strs (ps.drop j) := by rw [hD, ← List.drop_take, HT.out]; simp [strs]
  have hsp : ∀ x y, D[x]? = some y → (W.drewN nq).drew.cell? ((⟨k, j, none⟩ : Addr).add x) = some y := by rw [hD]; exact src_cells (W := (W.drewN nq).drew) HH.out
  have HSP := hide hsp
  have HDS := hide hDs
  have HD1 : Hid (∀ y ∈ D, y.oneCell' = true) := hide (by rw [hDs]; exact oneCell_strs _)
  have HVH := hide hvh
  have HVT := hide hvt
  clear hD hDs hsp hvh hvt
  go_wp2_with (simp only [hov])
  clear hov
  go_cut [] from 15 to 223 (fun wc => wc.heap[k]? = some (.cells (splice L (i + vs.length) D).toArray 9 (0, 0)) ∧ Only (fun x => x = k) W wc)
  case first =>
    go_region_law (refine step_copy_row rfl (.tmp 126) (.tmp 129) 29 29 rfl 9 Try.underlying29 (by kernel_rfl) (some ⟨k, i + vs.length, none⟩) (some ⟨k, j, none⟩) (T - (i + vs.length)) (cap - (i + vs.length)) (ps.length - j) (cap - j) (by simp [Act.eval, Act.put]) (by simp [Act.eval, Act.put]) k (i + vs.length) L 9 HH.out D (by have := HTT.out; rw [hDl]; simp only [Nat.min_def]; split <;> omega) (fun _ => ⟨rfl, _, rfl, HSP.out⟩) (by rw [hDl, hL]; have := HTT.out; omega) HD1.out ?_; intro w9 hk9 ho9)
    all_goals (go_wp2_with fail; go_meet; exact ⟨hk9, ((Only.drewN _ W nq).trans (Only.drew _ _)).trans ho9⟩)
  case rest =>
    obtain ⟨hk3, ho3⟩ := hcut
    have hls := length_splice L (i + vs.length) D (by rw [hDl, hL]; have := HTT.out; omega)
    have hvc2 : ∀ x y, (strs vs)[x]? = some y → wc.cell? ((⟨vb, 0, none⟩ : Addr).add x) = some y := fun x y hx => by
      rw [Addr.add_lit]
      exact cells_of (W := wc) ((ho3.block vb (lt_of_heap HVH.out) hvk).trans HVH.out) HVT.out x y hx
    obtain ⟨W4, hcp, hk4, ho4⟩ := copy_row (P := Try.prog) wc 29 29 9 Try.underlying29 (by kernel_rfl) k i (T - i) (cap - i) ⟨vb, 0, none⟩ vs.length vc _ 9 hk3 (strs vs) (by have := HTT.out; simp only [List.length_map, Nat.min_def]; split <;> omega) hvc2 (by rw [hls, hvl2, hL]; omega) (oneCell_strs vs)
    have hfin := splice2 L D (strs vs) i (by rw [hvl2, hDl, hL]; omega)
    rw [hvl2] at hfin
    rw [hfin] at hk4
    have hl3 : (L.take i ++ (strs vs ++ (D ++ L.drop (i + vs.length + D.length)))).length = cap := by simp only [List.length_append, List.length_take, hvl2, hDl, List.length_drop, hL]; omega
    have ho : Only (fun x => some x = some k) W W4 := (ho3.trans ho4).mono fun x _ e => by rw [e]
    have htk : (L.take i ++ (strs vs ++ (D ++ L.drop (i + vs.length + D.length)))).take T = strs qs := by
      rw [HQ.out]
      have e3 : L.take i = (strs ps).take i := by rw [← HT.out, List.take_take]; congr 1; omega
      rw [e3, ← List.append_assoc, ← List.append_assoc, List.take_left' (by simp only [List.length_append, List.length_take, hpl, hvl2, hDl]; have := HTT.out; omega), HDS.out]
      simp [strs, List.map_take]
    have hql : qs.length = T := by rw [HQ.out]; have := HTT.out; simp; omega
    have HF := hide (repl_row (sv := .slice (some ⟨k, 0, none⟩) ps.length cap) hkB ho hql.symm hk4 hl3 c4 hcm (by rw [hql]; exact htk) (.inl rfl))
    clear hk3 ho htk ho3 hl3 hfin hql hk4 ho4
    go_wp2
    go_ret
    exact ⟨_, rfl, HF.out⟩

end Go.Proofs.Ytpmijaplkbmbiaa
