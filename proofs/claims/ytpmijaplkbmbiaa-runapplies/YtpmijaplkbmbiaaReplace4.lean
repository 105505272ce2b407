/- slices.Replace at this program: up to the end; and whatever the road. -/
import Derived.Test.YtpmijaplkbmbiaaReplace3
namespace Go.Proofs.Ytpmijaplkbmbiaa
open Go.RowKit Go.By Go.Shelf
set_option linter.unusedVariables false

theorem append_room_any (W : World) (k i cap : Nat) (L : List Value) (vs : List ByteArray) (va : Option Addr) (vc : Nat) (hh : W.heap[k]? = some (.cells L.toArray 9 (0, 0))) (hL : L.length = cap) (hroom : i + vs.length ≤ cap) (hsrc : Src W va k vs) (hnil : vs = [] → va = none ∧ vc = 0) :
    ∃ W', (∀ ty, (Builtin.append_ #[29, 29] ty #[.slice (some ⟨k, 0, none⟩) i cap, .slice va vs.length vc]).run Try.prog W = .ok (.slice (some ⟨k, 0, none⟩) (i + vs.length) cap) W') ∧ W'.heap[k]? = some (.cells (splice L i (strs vs)).toArray 9 (0, 0)) ∧ Only (fun x => x = k) W W' := by
  obtain ⟨i0, hi, hz0, hz1, hz2⟩ := info_parts Try.info9
  by_cases hm : vs = []
  · obtain ⟨rfl, rfl⟩ := hnil hm
    subst hm
    refine ⟨W, fun ty => ?_, by simpa [splice] using hh, Only.refl _ W⟩
    simp [Builtin.append_, run_underlying Try.underlying29, Builtin.lenOf, sizeOf, typeInfo, hi, Builtin.firstCells, storeCells]
    intro hci
    simp at hroom
    omega
  · have hpos : 0 < vs.length := List.length_pos_iff.2 hm
    obtain ⟨vb, VL, rfl, hvk, hvh, hvt⟩ := hsrc hpos
    have hr := fun ty => run_append_room (P := Try.prog) W 29 ty 9 i0 Try.underlying29 hi k i cap L.toArray hh ⟨vb, 0, none⟩ vs.length vc (strs vs) (by rw [hz1]; simp) (fun x y hx => by rw [Addr.add_lit]; exact cells_of hvh hvt x y hx) (oneCell_strs vs) hroom (by rw [hz1]; simp; omega)
    refine ⟨_, hr, ?_, Only.setRow W k _ rfl⟩
    rw [hz1]
    simpa [splice] using setRow_heap W k _ _ 9 _ hh

set_option maxRecDepth 100000 in
set_option maxHeartbeats 4000000 in
theorem replace_end (B k cap i : Nat) (L : List Value) (ps vs : List ByteArray) (va : Option Addr) (vc : Nat) (W : World) (hB : B ≤ W.heap.size) (hkB : B ≤ k) (hh : W.heap[k]? = some (.cells L.toArray 9 (0, 0))) (hc : ps.length ≤ cap) (hcm : cap ≤ maxLen) (hL : L.length = cap) (ht : L.take ps.length = strs ps)
    (hsrc : Src W va k vs) (hnil : vs = [] → va = none ∧ vc = 0) (hij : i < ps.length) (hsz : ps.length + vs.length ≤ 1000000) :
    Calls Try.prog 122 #[.slice (some ⟨k, 0, none⟩) ps.length cap, .int .i64 (i : Int), .int .i64 (ps.length : Int), .slice va vs.length vc] W fun e W' => ∃ v', e = .returned v' ∧ Repl B (.slice (some ⟨k, 0, none⟩) ps.length cap) W W' v' (ps.take i ++ vs) := by
  obtain ⟨qs, hqs⟩ : ∃ qs, qs = ps.take i ++ vs := ⟨_, rfl⟩
  rw [← hqs]
  have hpl : (strs ps).length = ps.length := by simp
  have hvl2 : (strs vs).length = vs.length := by simp
  have hql : qs.length = i + vs.length := by rw [hqs]; simp; omega
  have e3 : L.take i = strs (ps.take i) := by
    have : L.take i = (strs ps).take i := by rw [← ht, List.take_take]; congr 1; omega
    rw [this]; simp [strs, List.map_take]
  have b1 : (i : Int) ≤ (ps.length : Int) := by omega
  have b2 : (ps.length : Int) ≤ (cap : Int) := by omega
  have b3 : ¬ (i : Int) = (ps.length : Int) := by omega
  have b5 : i ≤ cap := by omega
  have b7 : (i : Int) ≤ (cap : Int) := by omega
  by_cases hroom : i + vs.length ≤ cap
  · obtain ⟨W2, happ, hk2, ho2⟩ := append_room_any W k i cap L vs va vc hh hL hroom hsrc hnil
    have hls := length_splice L i (strs vs) (by rw [hvl2]; omega)
    have htk : (splice L i (strs vs)).take (i + vs.length) = strs qs := by
      have e4 : splice L i (strs vs) = (L.take i ++ strs vs) ++ L.drop (i + (strs vs).length) := by unfold splice; rw [List.append_assoc]
      rw [e4, List.take_left' (by rw [List.length_append, List.length_take, hvl2]; omega), e3, hqs]; simp [strs]
    by_cases hlt : i + vs.length < ps.length
    · have hlt' : (i : Int) + (vs.length : Int) < (ps.length : Int) := by omega
      have w2 : i + vs.length ≤ cap := hroom
      have w3 : ¬ cap = i + vs.length := by omega
      have w4 : i + vs.length ≤ ps.length := by omega
      obtain ⟨W4, hclr, hk4, ho4⟩ := clear_row (P := Try.prog) W2 29 9 (.string ⟨#[]⟩) Try.underlying29 Try.zeroValue9 rfl rfl k (i + vs.length) (ps.length - (i + vs.length)) (cap - (i + vs.length)) (by omega) _ 9 hk2 (by rw [List.size_toArray, hls]; omega)
      have HF := hide (repl_row (sv := .slice (some ⟨k, 0, none⟩) ps.length cap) (L := splice (splice L i (strs vs)) (i + vs.length) (List.replicate (ps.length - (i + vs.length)) (.string ⟨#[]⟩))) hkB ((ho2.trans ho4).mono fun x _ e => by rw [e]; rfl) hql.symm hk4 (by rw [length_splice _ _ _ (by rw [hls, List.length_replicate]; omega), hls, hL]) hroom hcm (by rw [hql, splice_take _ _ _ (by rw [hls, List.length_replicate]; omega)]; exact htk) (.inl rfl))
      clear hk2 ho2 htk hls hql hqs hk4 ho4 e3 hh ht hsrc hnil
      go_enter Try.func122, Try.ntmps122
      go_wp2_with (at_builtin; refine Lib.wpList_append_run _ rfl _ _ 29 29 rfl _ _ rfl rfl _ _ (happ _) ?_; clear happ)
      go_ret
      exact ⟨_, rfl, HF.out⟩
    · have hlt' : ¬ (i : Int) + (vs.length : Int) < (ps.length : Int) := by omega
      have HF := hide (repl_row (sv := .slice (some ⟨k, 0, none⟩) ps.length cap) hkB (ho2.mono fun x _ e => by rw [e]; rfl) hql.symm hk2 (by rw [hls, hL]) hroom hcm (by rw [hql]; exact htk) (.inl rfl))
      clear hk2 ho2 htk hls hql hqs e3 hh ht hsrc hnil
      go_enter Try.func122, Try.ntmps122
      go_wp2_with (at_builtin; refine Lib.wpList_append_run _ rfl _ _ 29 29 rfl _ _ rfl rfl _ _ (happ _) ?_; clear happ)
      go_ret
      exact ⟨_, rfl, HF.out⟩
  · have hpos : 0 < vs.length := by omega
    obtain ⟨vb, VL, rfl, hvk, hvh, hvt⟩ := hsrc hpos
    obtain ⟨i0, hi, hz0, hz1, hz2⟩ := info_parts Try.info9
    have hrow : W.ownsRow B 9 1 (.slice (some ⟨k, 0, none⟩) i cap) i (strs (ps.take i)) := ⟨by simp; omega, .inr ⟨k, cap, L.toArray, rfl, hkB, hh, b5, hcm, by simpa using hL, by simpa using e3⟩⟩
    have hlt' : ¬ (i : Int) + (vs.length : Int) < (ps.length : Int) := by omega
    have HR := hide hrow
    have HVH := hide hvh
    have HVT := hide hvt
    have HQ := hide hqs
    have HQL := hide hql
    clear hrow hvh hvt hqs hql e3 hh ht hsrc hnil
    go_enter Try.func122, Try.ntmps122
    go_wp2_with (at_builtin; refine wpList_append_lies _ rfl _ _ 29 rfl B 9 i0 (.string ⟨#[]⟩) 1 16 Try.underlying29 hi hz0 hz1 hz2 rfl (by decide) (.slice (some ⟨k, 0, none⟩) i cap) i (strs (ps.take i)) rfl HR.out ⟨vb, 0, none⟩ vs.length vc (strs vs) rfl (by simp) (fun x y hx => by rw [Addr.add_lit]; exact cells_of HVH.out HVT.out x y hx) (oneCell_strs vs) hpos (by unfold maxLen; omega) (by omega) hB W.heap.size rfl ?_; intro g cap2 w2 hr2 hg2 hgg hlt2; have HF := hide (show Repl B (.slice (some ⟨k, 0, none⟩) ps.length cap) W w2 (.slice (some ⟨g, 0, none⟩) (i + vs.length) cap2) qs from ⟨(by rw [HQL.out, HQ.out]; simpa [strs] using hr2), Only.grown hg2 (fun x hx => hx.symm), hgg.elim (fun e => .inl e.symm) fun e => .inr ⟨g, rfl, by omega⟩⟩); clear hr2 hg2 hgg hlt2)
    go_ret
    exact ⟨_, rfl, HF.out⟩

/-- What slices.Replace leaves, whatever the road. -/
theorem replace_any (B : Nat) (sv vv : Value) (ps vs : List ByteArray) (i j : Nat) (W : World) (hB : B ≤ W.heap.size) (hs : W.ownsRow B 9 1 sv ps.length (strs ps)) (hv : W.ownsRow B 9 1 vv vs.length (strs vs)) (hne : ∀ k, vv.ownBlock = some k → some k ≠ sv.ownBlock) (hnil : vs = [] → vv = .slice none 0 0)
    (hij : i < j) (hj : j ≤ ps.length) (hsz : ps.length + vs.length ≤ 1000000) :
    Calls Try.prog 122 #[sv, .int .i64 (i : Int), .int .i64 (j : Int), vv] W fun e W' => ∃ v', e = .returned v' ∧ Repl B sv W W' v' (ps.take i ++ vs ++ ps.drop j) := by
  obtain ⟨k, cap, L, rfl, hkB, hh, hc, hcm, hL, ht⟩ : ∃ k cap L, sv = .slice (some ⟨k, 0, none⟩) ps.length cap ∧ B ≤ k ∧ W.heap[k]? = some (.cells (List.toArray L) 9 (0, 0)) ∧ ps.length ≤ cap ∧ cap ≤ maxLen ∧ L.length = cap ∧ L.take ps.length = strs ps := by
    rcases row_open hs with ⟨_, rfl⟩ | h
    · simp at hj; omega
    · exact h
  obtain ⟨va, vc, rfl, hsrc, hnil2⟩ : ∃ va vc, vv = .slice va vs.length vc ∧ Src W va k vs ∧ (vs = [] → va = none ∧ vc = 0) := by
    rcases row_open hv with ⟨rfl, rfl⟩ | ⟨vb, vc, VL, rfl, _, hvh, _, _, _, hvt⟩
    · exact ⟨none, 0, rfl, fun h => by simp at h, fun _ => ⟨rfl, rfl⟩⟩
    · exact ⟨_, vc, rfl, fun _ => ⟨vb, VL, rfl, fun e => hne vb rfl (by rw [e]; rfl), hvh, hvt⟩, fun e => by have := hnil e; cases this⟩
  by_cases hjn : j = ps.length
  · subst hjn
    rw [List.drop_length, List.append_nil]
    exact replace_end B k cap i L ps vs va vc W hB hkB hh hc hcm hL ht hsrc hnil2 hij hsz
  · have hj' : j < ps.length := by omega
    by_cases hroom : i + vs.length + (ps.length - j) ≤ cap
    · by_cases hfit : i + vs.length ≤ j
      · exact replace_fits B k cap i j L ps vs va vc W hB hkB hh hc hcm hL ht hsrc hij hj' hsz hroom hfit
      · exact replace_wide B k cap i j L ps vs va vc W hB hkB hh hc hcm hL ht hsrc hij hj' hsz hroom (by omega)
    · exact replace_grow B k cap i j L ps vs va vc W hB hkB hh hc hcm hL ht hsrc hij hj' hsz (by omega)

end Go.Proofs.Ytpmijaplkbmbiaa
