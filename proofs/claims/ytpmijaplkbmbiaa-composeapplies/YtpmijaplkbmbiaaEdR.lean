/- The document's Norm, walked. -/
import Derived.Test.YtpmijaplkbmbiaaEdN
namespace Go.Proofs.Ytpmijaplkbmbiaa.E
open Go.Proofs.Ytpmijaplkbmbiaa Go.RowKit Go.By Go.Shelf
set_option linter.unusedVariables false
set_option linter.unusedSimpArgs false

theorem app_prep1 {wr : World} {B : Nat} {v : Value} {P : List Rn} (h : OwnR wr B v P) (hB : B ≤ wr.heap.size) (L : List Rn) :
    (wr.alloc (.cells (cellsR L).toArray 91)).ownsRow B 91 3 v P.length (cellsR P) ∧
    (∀ i u, (cellsR L)[i]? = some u → (wr.alloc (.cells (cellsR L).toArray 91)).cell? ((⟨wr.heap.size, 0, none⟩ : Addr).add i) = some u) ∧
    B ≤ (wr.alloc (.cells (cellsR L).toArray 91)).heap.size ∧
    (wr.alloc (.cells (cellsR L).toArray 91)).heap.size = wr.heap.size + 1 := by
  refine ⟨World.ownsRow.alloc h _, fun i u hu => ?_, by simp; omega, by simp⟩
  exact World.news_of_block (cs := (cellsR L).toArray) (World.alloc_heap_new wr (.cells (cellsR L).toArray 91)) i u (by simpa using hu)

theorem OwnR.up {W W' : World} {B : Nat} {v : Value} {P : List Rn} (h : OwnR W B v P) (hb : Below W.heap.size W W') : OwnR W' B v P := h.kept fun q hq => hb.block q (h.lt hq).2

def keepL (k : Nat) : List Rn := if k = 0 then [] else [rK k]
def addL (a : List UInt8) : List Rn := if a = [] then [] else [rA a]
def dropL (d : Nat) : List Rn := if d = 0 then [] else [rD d]
theorem flush_parts (k : Nat) (a : List UInt8) (d : Nat) : flush k a d = keepL k ++ (addL a ++ dropL d) := rfl

/-- Where the document's Norm stands behind some right runs. -/
def RN (T : List Rn) (O : List Rn) (kp : Nat) (ad : List UInt8) (dp : Nat) : Prop :=
  (ad = [] ∧ dp = 0 ∧ nscan (expand T) = ⟨O, kp, [], 0⟩) ∨ (kp = 0 ∧ ¬ (ad = [] ∧ dp = 0) ∧ ∃ O' k', O = O' ++ keepL k' ∧ nscan (expand T) = ⟨O', k', ad, dp⟩)

theorem RN.keep {T O : List Rn} {kp dp n : Nat} {ad : List UInt8} (h : RN T O kp ad dp) (hn : n ≠ 0) : RN (T ++ [rK n]) (O ++ (addL ad ++ dropL dp)) (kp + n) [] 0 := by
  rcases h with ⟨rfl, rfl, h⟩ | ⟨rfl, hne, O', k', rfl, h⟩
  · refine .inl ⟨rfl, rfl, ?_⟩
    rw [nscan_snoc, h, nstep_keep0 hn ⟨rfl, rfl⟩]
    simp [addL, dropL]
  · refine .inl ⟨rfl, rfl, ?_⟩
    rw [nscan_snoc, h, nstep_keep1 hn hne, flush_parts]
    simp
theorem RN.add {T O : List Rn} {kp dp : Nat} {ad b : List UInt8} (h : RN T O kp ad dp) (hb : b ≠ []) : RN (T ++ [rA b]) (O ++ keepL kp) 0 (ad ++ b) dp := by
  rcases h with ⟨rfl, rfl, h⟩ | ⟨rfl, hne, O', k', rfl, h⟩
  · exact .inr ⟨rfl, by simp [hb], O, kp, rfl, by rw [nscan_snoc, h, nstep_add hb]⟩
  · exact .inr ⟨rfl, by simp [hb], O', k', by simp [keepL], by rw [nscan_snoc, h, nstep_add hb]⟩
theorem RN.drop {T O : List Rn} {kp dp n : Nat} {ad : List UInt8} (h : RN T O kp ad dp) (hn : n ≠ 0) : RN (T ++ [rD n]) (O ++ keepL kp) 0 ad (dp + n) := by
  rcases h with ⟨rfl, rfl, h⟩ | ⟨rfl, hne, O', k', rfl, h⟩
  · exact .inr ⟨rfl, by simp; omega, O, kp, rfl, by rw [nscan_snoc, h, nstep_drop hn]⟩
  · exact .inr ⟨rfl, by simp; omega, O', k', by simp [keepL], by rw [nscan_snoc, h, nstep_drop hn]⟩
theorem RN.end_ {T O : List Rn} {kp dp : Nat} {ad : List UInt8} (h : RN T O kp ad dp) : normT (expand T) = (O ++ keepL kp) ++ (addL ad ++ dropL dp) := by
  rcases h with ⟨rfl, rfl, h⟩ | ⟨rfl, hne, O', k', rfl, h⟩
  · rw [normT, h, nend, flush_parts, List.append_assoc]
  · rw [normT, h, nend, flush_parts]; simp [keepL]
theorem RN.bounds {T O : List Rn} {kp dp : Nat} {ad : List UInt8} (h : RN T O kp ad dp) : kp ≤ tIn (expand T) ∧ dp ≤ tIn (expand T) ∧ ad.length ≤ tOut (expand T) ∧ O.length ≤ tIn (expand T) + tOut (expand T) + 1 := by
  have b1 := scan_bounds (expand T)
  have b2 := op_len (expand T)
  rcases h with ⟨rfl, rfl, h⟩ | ⟨rfl, hne, O', k', rfl, h⟩
  · rw [h] at b1 b2
    replace b1 : kp ≤ tIn (expand T) ∧ 0 ≤ tIn (expand T) ∧ 0 ≤ tOut (expand T) := b1
    replace b2 : O.length ≤ _ := b2
    simp; omega
  · rw [h] at b1 b2
    replace b1 : k' ≤ tIn (expand T) ∧ dp ≤ tIn (expand T) ∧ ad.length ≤ tOut (expand T) := b1
    replace b2 : O'.length ≤ _ := b2
    have : (keepL k').length ≤ 1 := by unfold keepL; split <;> simp
    rw [List.length_append]; omega

theorem take_le {R : List Rn} (k : Nat) : tIn (expand (R.take k)) ≤ tIn (expand R) ∧ tOut (expand (R.take k)) ≤ tOut (expand R) := by
  have := congrArg expand (List.take_append_drop k R)
  rw [expand_append] at this
  rw [← this, tIn_append, tOut_append]; omega

/-- What the second loop holds. -/
def R2 (B : Nat) (W3 : World) (T : List Rn) (kp dp : Nat) (s : ByteArray) (u : Value) (wr : World) : Prop :=
  ∃ O, RN T O kp s.data.toList dp ∧ OwnR wr B u O ∧ Below B W3 wr

theorem own_len {W : World} {B n m c : Nat} {a : Option Addr} {P : List Rn} (h : OwnR W B (.slice a n c) P) (e : n = m) : OwnR W B (.slice a m c) P := e ▸ h

/-- Where the second loop stands. -/
def RJ (R : List Rn) (j : Nat) (O : List Rn) (k : Nat) (ad : List UInt8) (d : Nat) : Prop :=
  (j ≤ R.length ∧ RN (R.take j) O k ad d ∧ O.length ≤ 2 * j) ∨ (j = R.length + 1 ∧ normT (expand R) = O ++ (addL ad ++ dropL d) ∧ O.length ≤ 2 * R.length + 1)

theorem len_two (O : List Rn) (a : List UInt8) (d : Nat) : (O ++ (addL a ++ dropL d)).length ≤ O.length + 2 := by
  have h1 : (addL a).length ≤ 1 := by unfold addL; split <;> simp
  have h2 : (dropL d).length ≤ 1 := by unfold dropL; split <;> simp
  simp only [List.length_append]; omega
theorem len_one (O : List Rn) (k : Nat) : (O ++ keepL k).length ≤ O.length + 1 := by
  have h1 : (keepL k).length ≤ 1 := by unfold keepL; split <;> simp
  simp only [List.length_append]; omega


theorem addL_no {s : ByteArray} (h : s.toList = []) : addL s.data.toList = [] := by rw [toList_data] at h; simp [addL, h]
theorem addL_yes {s : ByteArray} (h : ¬ s.toList = []) : addL s.data.toList = [⟨0, s, 0⟩] := by rw [toList_data] at h; rw [addL, if_neg h, rA]
theorem dropL_no {d : Nat} (h : d = 0) : dropL d = [] := by simp [dropL, h]
theorem dropL_yes {d : Nat} (h : ¬ d = 0) : dropL d = [⟨0, ⟨#[]⟩, (d : Int)⟩] := by rw [dropL, if_neg h]; rfl
theorem keepL_no {d : Nat} (h : d = 0) : keepL d = [] := by simp [keepL, h]
theorem keepL_yes {d : Nat} (h : ¬ d = 0) : keepL d = [⟨(d : Int), ⟨#[]⟩, 0⟩] := by rw [keepL, if_neg h]; rfl

theorem came_cell {W W' : World} {b off j : Nat} {R : List Rn} (h : CameR W.heap.size W (some ⟨b, off, none⟩) R) (hb : Below W.heap.size W W') (hj : j < R.length) :
    W'.cell? ⟨b, off + j * 3, none⟩ = some (.int .i64 (R.getD j rn0).keep) ∧ W'.cell? ⟨b, off + j * 3 + 1, none⟩ = some (.string (R.getD j rn0).add) ∧ W'.cell? ⟨b, off + j * 3 + 2, none⟩ = some (.int .i64 (R.getD j rn0).drop) := by
  obtain ⟨b', off', e, h1, h2, h3⟩ := came_at (h.below hb) hj
  cases e; exact ⟨h1, h2, h3⟩
theorem cell_X {W W' : World} {b off j : Nat} {xk xd : Int} {xa : ByteArray} {R : List Rn} (h : CameR W.heap.size W (some ⟨b, off, none⟩) R) (hb : Below W.heap.size W W') (hj : j < R.length) (hy : R.getD j rn0 = ⟨xk, xa, xd⟩) :
    W'.cell? ⟨b, off + j * 3, none⟩ = some (.int .i64 xk) ∧ W'.cell? ⟨b, off + j * 3 + 1, none⟩ = some (.string xa) ∧ W'.cell? ⟨b, off + j * 3 + 2, none⟩ = some (.int .i64 xd) := by
  have := came_cell h hb hj
  rw [hy] at this; exact this

theorem lt_of_cell {W : World} {b o : Nat} {v : Value} (h : W.cell? ⟨b, o, none⟩ = some v) : b < W.heap.size := World.block_lt_of_cell? W _ h

set_option maxRecDepth 100000 in
set_option maxHeartbeats 8000000 in
theorem rnorm_any (a : Option Addr) (cap : Nat) (rs : List Rn) (w : World) (hS : CameR w.heap.size w a rs) (hl : rs.length ≤ 400000) :
    Calls Try.prog 61 #[.slice a rs.length cap] w fun e W' => Gives w.heap.size w (normR rs) e W' := by
  obtain ⟨i0, hi, hz0, hz1, hz2⟩ := info_parts (show (Try.prog.info? 91).map (fun i => (i.zero, i.size, i.bytes)) = some (some (.agg #[.int .i64 0, .string ⟨#[]⟩, .int .i64 0]), 3, 32) by kernel_rfl)
  have HS := hide hS
  clear hS
  go_enter Try.func61, Try.ntmps61
  go_wp2_with fail
  go_loopw [3, 4] (fun u i wr => ∃ k : Nat, i = .int .i64 (k : Int) ∧ k ≤ rs.length ∧ Hid (OwnR wr w.heap.size u (rightR (rs.take k)) ∧ Below w.heap.size w wr)) (fun _ i _ => rs.length - (intOf i).toNat)
  case atStart => exact ⟨0, rfl, by omega, hide ⟨OwnR.nil _ _, Below.refl _ _⟩⟩
  case round =>
    obtain ⟨k, rfl, hk, HI⟩ := hrel
    obtain ⟨ua, un, uc, rfl⟩ := form3 HI.out.1
    by_cases hlt : k < rs.length
    · have hlt' : (k : Int) < (rs.length : Int) := by omega
      obtain ⟨b, off, rfl, s0, s1, s2⟩ := came_at (HS.out.below HI.out.2) hlt
      have hsn : rs.take (k + 1) = rs.take k ++ [rs.getD k rn0] := by rw [List.take_succ_eq_append_getElem hlt]; simp [List.getD, hlt]
      obtain ⟨y, hy⟩ : ∃ y, y = rs.getD k rn0 := ⟨_, rfl⟩
      rw [← hy] at s0 s1 s2 hsn
      obtain ⟨xk, xa, xd⟩ := y
      dsimp only at s0 s1 s2
      have HLT := hide hlt
      have w6 : IntKind.i64.wrap ((k : Int) + 1) = (k : Int) + 1 := by rw [IntKind.wrap_i64]; omega
      have HM : Hid ((rightR (rs.take k)).length ≤ 400000) := hide (by have := List.length_filter_le (fun r => decide (kind r ≠ 0)) (rs.take k); rw [List.length_take] at this; unfold rightR; omega)
      have hkd := rkind_any xk xd xa
      obtain ⟨kx, hkx⟩ : ∃ kx, kx = kind ⟨xk, xa, xd⟩ := ⟨_, rfl⟩
      rw [← hkx] at hkd
      by_cases h0 : kx = 0
      · have EP : Hid (rightR (rs.take (k + 1)) = rightR (rs.take k)) := hide (by
          rw [hsn, rightR, List.filter_append, List.filter_cons_of_neg (by rw [← hkx]; simp [h0]), List.filter_nil, List.append_nil]; rfl)
        subst h0
        have HK := hide hkd
        clear hsn hy hkx hkd
        go_wp2_with (go_at_call 100; refine (HK.out _).mono ?_; rintro e V ⟨rfl, hb⟩; have HB := hide hb; clear hb)
        go_roundw
        case rel => exact ⟨k + 1, by go_num, by have := HLT.out; omega, hide ⟨by rw [EP.out]; exact HI.out.1.up HB.out, HI.out.2.trans (HB.out.mono HI.out.2.size)⟩⟩
        case measure => simp [intOf]; have := HLT.out; omega
      · have h0' : (0 : Int) < (kx : Int) := by omega
        have EP : Hid (rightR (rs.take (k + 1)) = rightR (rs.take k) ++ [⟨xk, xa, xd⟩]) := hide (by
          rw [hsn, rightR, List.filter_append, List.filter_cons_of_pos (by rw [← hkx]; simp [h0]), List.filter_nil]; rfl)
        have HK := hide hkd
        clear hsn hy hkx hkd
        generalize rightR (rs.take k) = P at *
        go_wp2_with (first
          | (go_at_call 100; refine (HK.out _).mono ?_; rintro e V ⟨rfl, hb⟩; have HO := hide (HI.out.1.up hb); have HV := hide (HI.out.2.trans (hb.mono HI.out.2.size)); have HP := hide (app_prep1 HO.out HV.out.size [⟨xk, xa, xd⟩]); have y0 := (hb.cell (p := ⟨b, off + k * 3, none⟩) (lt_of_cell s0)).trans s0; have y1 := (hb.cell (p := ⟨b, off + k * 3 + 1, none⟩) (lt_of_cell s1)).trans s1; have y2 := (hb.cell (p := ⟨b, off + k * 3 + 2, none⟩) (lt_of_cell s2)).trans s2; clear hb)
          | (at_builtin; refine wpList_append_lies _ rfl (.tmp 25) (.tmp 30) 77 rfl w.heap.size 91 i0 (.agg #[.int .i64 0, .string ⟨#[]⟩, .int .i64 0]) 3 32 Try.underlying77 hi hz0 hz1 hz2 rfl (by decide) (.slice ua un uc) (P).length (cellsR (P)) rfl (HP.out).1 ⟨V.heap.size, 0, none⟩ 1 1 (cellsR [⟨xk, xa, xd⟩]) rfl rfl (HP.out).2.1 (oneCellR _) (by decide) (by have := HM.out; (try simp only [List.length_append, List.length_cons, List.length_nil]); unfold maxLen; omega) (by have := HM.out; (try simp only [List.length_append, List.length_cons, List.length_nil]); omega) (HP.out).2.2.1 (V.heap.size + 1) (HP.out).2.2.2 ?_; intro ggWA cWA WA hr hgr hat hltA; have HQ := hide (app_done HO.out (HV.out).size HV.out [⟨xk, xa, xd⟩] hr (only_then (Only.alloc _ _ _) hgr)); clear hr hgr hat hltA))
        go_roundw
        case rel => exact ⟨k + 1, by go_num, by have := HLT.out; omega, hide (by rw [EP.out]; exact HQ.out)⟩
        case measure => simp [intOf]; have := HLT.out; omega
    · obtain rfl : k = rs.length := by omega
      rw [List.take_length] at HI
      have HRL : Hid ((rightR rs).length ≤ 400000) := hide (by have := List.length_filter_le (fun r => decide (kind r ≠ 0)) rs; unfold rightR; omega)
      obtain ⟨_, _, e⟩ := HI.out.1.form
      cases e
      have hsm := sums_any ua uc (rightR rs) wr HI.out.1.came (by have := HRL.out; omega) (rightR_all rs)
      rw [sscan_right (rightR_all rs), expand_right] at hsm
      by_cases hf : tIn (expand rs) ≤ 16777216 ∧ tOut (expand rs) ≤ 16777216
      · rw [if_pos hf] at hsm
        replace hsm : Calls Try.prog 101 #[.slice ua (rightR rs).length uc] wr fun e W' => e = .returned (.tuple #[.int .i64 ((tIn (expand rs) : Nat) : Int), .int .i64 ((tOut (expand rs) : Nat) : Int), .bool true]) ∧ Below wr.heap.size wr W' := hsm
        have HRC := hide HI.out.1.came
        have HRA := hide (rightR_all rs)
        have HEX : Hid (expand (rightR rs) = expand rs) := hide (expand_right rs)
        have HF : Hid (tIn (expand (rightR rs)) ≤ 16777216 ∧ tOut (expand (rightR rs)) ≤ 16777216) := hide (by rw [HEX.out]; exact hf)
        have HBI := hide HI.out.2
        clear hf HI
        generalize rightR rs = R at *
        go_wp2_with (go_at_call 101; refine hsm.mono ?_; rintro e V ⟨rfl, hb⟩; have HV := hide (HBI.out.trans (hb.mono HBI.out.size)); have HC := hide (came_up HRC.out hb); clear hb)
        go_loopw [8, 9, 10, 11, 12] (fun u sv dv kv i wr => ∃ (j k d : Nat) (s : ByteArray), i = .int .i64 (j : Int) ∧ sv = .string s ∧ dv = .int .i64 (d : Int) ∧ kv = .int .i64 (k : Int) ∧ j ≤ R.length + 1 ∧ Hid (∃ O, RJ R j O k s.data.toList d ∧ OwnR wr V.heap.size u O ∧ Below V.heap.size V wr)) (fun _ _ _ _ i _ => R.length + 1 - (intOf i).toNat)
        case atStart => exact ⟨0, 0, 0, ⟨#[]⟩, rfl, rfl, rfl, rfl, by omega, hide ⟨[], .inl ⟨by omega, .inl ⟨rfl, rfl, rfl⟩, by simp⟩, OwnR.nil _ _, Below.refl _ _⟩⟩
        case round =>
          obtain ⟨j, k, d, s, rfl, rfl, rfl, rfl, hj, HI⟩ := hrel
          obtain ⟨O, hRJ, hO, hBl⟩ := HI.out
          obtain ⟨ua2, un2, uc2, rfl⟩ := form3 hO
          have HO := hide hO
          have HBL := hide hBl
          have HRLb := HRL.out
          have w6 : IntKind.i64.wrap ((j : Int) + 1) = (j : Int) + 1 := by rw [IntKind.wrap_i64]; omega
          clear hO HI
          rcases hRJ with ⟨hjl, hRN, hOl⟩ | ⟨rfl, hEnd, hOl⟩
          · have hle' : (j : Int) ≤ (R.length : Int) := by omega
            have hbd := hRN.bounds
            have htk := take_le (R := R) j
            have hF := HF.out
            have HM : Hid (O.length ≤ 1000000) := hide (by omega)
            by_cases hlt : j < R.length
            · have hlt' : (j : Int) < (R.length : Int) := by omega
              obtain ⟨b, off, rfl, s0, s1, s2⟩ := came_at (HC.out.below hBl) hlt
              have hsn : R.take (j + 1) = R.take j ++ [R.getD j rn0] := by rw [List.take_succ_eq_append_getElem hlt]; simp [List.getD, hlt]
              have hkn : kind (R.getD j rn0) ≠ 0 := HRA.out _ (by simp [List.getD, hlt])
              have htk1 := take_le (R := R) (j + 1)
              have HLT := hide hlt
              obtain ⟨y, hy⟩ : ∃ y, y = R.getD j rn0 := ⟨_, rfl⟩
              rw [← hy] at s0 s1 s2 hsn hkn
              have HY := hide hy.symm
              clear hy hBl
              rcases kind_cases hkn with ⟨n, hn, rfl⟩ | ⟨ab, ha, rfl⟩ | ⟨n, hn, rfl⟩
              · have hR2 := hRN.keep hn
                rw [← hsn] at hR2
                have hb2 := hR2.bounds
                replace s0 : wr.cell? ⟨b, off + j * 3, none⟩ = some (.int .i64 (n : Int)) := s0
                replace s1 : wr.cell? ⟨b, off + j * 3 + 1, none⟩ = some (.string ⟨#[]⟩) := s1
                replace s2 : wr.cell? ⟨b, off + j * 3 + 2, none⟩ = some (.int .i64 0) := s2
                have wk : IntKind.i64.wrap ((k : Int) + (n : Int)) = (k : Int) + (n : Int) := by rw [IntKind.wrap_i64]; omega
                have hkd := rkind_any (n : Int) 0 ⟨#[]⟩
                rw [show (⟨(n : Int), ⟨#[]⟩, 0⟩ : Rn) = rK n from rfl, kind_rK hn] at hkd
                have HK := hide hkd
                clear hkd hsn hkn htk htk1 hF hbd hb2
                by_cases za : s.toList = []
                · have za' : s.toList.isEmpty = true := by rw [za]; rfl
                  by_cases zd : d = 0
                  · have zd' : ¬ (0 : Int) < (d : Int) := by omega
                    have HE : Hid (O ++ (addL s.data.toList ++ dropL d) = O) := hide (by rw [addL_no za, dropL_no zd]; simp)
                    have HR2 : Hid (RJ R (j + 1) (O ++ (addL s.data.toList ++ dropL d)) (k + n) [] 0) := hide (.inl ⟨hlt, hR2, by have := len_two O s.data.toList d; omega⟩)
                    clear hR2 hRN
                    go_wp2_with (first
                      | (go_at_call 100; refine (HK.out _).mono ?_; rintro e V1 ⟨rfl, hb⟩; have HO1 := hide (HO.out.up hb); have HV1 := hide (HBL.out.trans (hb.mono HBL.out.size)); have y0 := (hb.cell (p := ⟨b, off + j * 3, none⟩) (lt_of_cell s0)).trans s0; have y1 := (hb.cell (p := ⟨b, off + j * 3 + 1, none⟩) (lt_of_cell s1)).trans s1; have y2 := (hb.cell (p := ⟨b, off + j * 3 + 2, none⟩) (lt_of_cell s2)).trans s2; clear hb))
                    go_roundw
                    case rel => exact ⟨j + 1, k + n, 0, ⟨#[]⟩, by go_num, rfl, rfl, by simp, by have := HLT.out; omega, hide ⟨_, HR2.out, by rw [HE.out]; exact own_len (HO1.out) (by simp), HV1.out⟩⟩
                    case measure => simp [intOf]; have := HLT.out; omega
                  · have zd' : (0 : Int) < (d : Int) := by omega
                    have HE : Hid (O ++ (addL s.data.toList ++ dropL d) = O ++ ([⟨0, ⟨#[]⟩, (d : Int)⟩] : List Rn)) := hide (by rw [addL_no za, dropL_yes zd]; simp)
                    have HR2 : Hid (RJ R (j + 1) (O ++ (addL s.data.toList ++ dropL d)) (k + n) [] 0) := hide (.inl ⟨hlt, hR2, by have := len_two O s.data.toList d; omega⟩)
                    clear hR2 hRN
                    go_wp2_with (first
                      | (go_at_call 100; refine (HK.out _).mono ?_; rintro e V1 ⟨rfl, hb⟩; have HO1 := hide (HO.out.up hb); have HV1 := hide (HBL.out.trans (hb.mono HBL.out.size)); have y0 := (hb.cell (p := ⟨b, off + j * 3, none⟩) (lt_of_cell s0)).trans s0; have y1 := (hb.cell (p := ⟨b, off + j * 3 + 1, none⟩) (lt_of_cell s1)).trans s1; have y2 := (hb.cell (p := ⟨b, off + j * 3 + 2, none⟩) (lt_of_cell s2)).trans s2; clear hb)
                      | (at_builtin; refine wpList_append_lies _ rfl (.tmp 67) (.tmp 70) 77 rfl V.heap.size 91 i0 (.agg #[.int .i64 0, .string ⟨#[]⟩, .int .i64 0]) 3 32 Try.underlying77 hi hz0 hz1 hz2 rfl (by decide) (.slice ua2 un2 uc2) (O).length (cellsR (O)) rfl ((app_prep1 HO1.out (HV1.out).size ([⟨0, ⟨#[]⟩, (d : Int)⟩] : List Rn))).1 ⟨V1.heap.size, 0, none⟩ 1 1 (cellsR ([⟨0, ⟨#[]⟩, (d : Int)⟩] : List Rn)) rfl rfl ((app_prep1 HO1.out (HV1.out).size ([⟨0, ⟨#[]⟩, (d : Int)⟩] : List Rn))).2.1 (oneCellR _) (by decide) (by have := HM.out; (try simp only [List.length_append, List.length_cons, List.length_nil]); unfold maxLen; omega) (by have := HM.out; (try simp only [List.length_append, List.length_cons, List.length_nil]); omega) ((app_prep1 HO1.out (HV1.out).size ([⟨0, ⟨#[]⟩, (d : Int)⟩] : List Rn))).2.2.1 (V1.heap.size + 1) ((app_prep1 HO1.out (HV1.out).size ([⟨0, ⟨#[]⟩, (d : Int)⟩] : List Rn))).2.2.2 ?_; intro ggWA2 cWA2 WA2 hr hgr hat hltA; have HQ2 := hide (app_done HO1.out (HV1.out).size HV1.out ([⟨0, ⟨#[]⟩, (d : Int)⟩] : List Rn) hr (only_then (Only.alloc _ _ _) hgr)); clear hr hgr hat hltA; obtain ⟨t0, t1, t2⟩ := cell_X (xk := (n : Int)) (xa := ⟨#[]⟩) (xd := 0) HC.out HQ2.out.2 HLT.out HY.out))
                    go_roundw
                    case rel => exact ⟨j + 1, k + n, 0, ⟨#[]⟩, by go_num, rfl, rfl, by simp, by have := HLT.out; omega, hide ⟨_, HR2.out, by rw [HE.out]; exact own_len (HQ2.out.1) (by simp), HQ2.out.2⟩⟩
                    case measure => simp [intOf]; have := HLT.out; omega
                · have za' : s.toList.isEmpty = false := by simpa using za
                  by_cases zd : d = 0
                  · have zd' : ¬ (0 : Int) < (d : Int) := by omega
                    have HE : Hid (O ++ (addL s.data.toList ++ dropL d) = O ++ ([⟨0, s, 0⟩] : List Rn)) := hide (by rw [addL_yes za, dropL_no zd]; simp)
                    have HR2 : Hid (RJ R (j + 1) (O ++ (addL s.data.toList ++ dropL d)) (k + n) [] 0) := hide (.inl ⟨hlt, hR2, by have := len_two O s.data.toList d; omega⟩)
                    clear hR2 hRN
                    go_wp2_with (first
                      | (go_at_call 100; refine (HK.out _).mono ?_; rintro e V1 ⟨rfl, hb⟩; have HO1 := hide (HO.out.up hb); have HV1 := hide (HBL.out.trans (hb.mono HBL.out.size)); have y0 := (hb.cell (p := ⟨b, off + j * 3, none⟩) (lt_of_cell s0)).trans s0; have y1 := (hb.cell (p := ⟨b, off + j * 3 + 1, none⟩) (lt_of_cell s1)).trans s1; have y2 := (hb.cell (p := ⟨b, off + j * 3 + 2, none⟩) (lt_of_cell s2)).trans s2; clear hb)
                      | (at_builtin; refine wpList_append_lies _ rfl (.tmp 60) (.tmp 63) 77 rfl V.heap.size 91 i0 (.agg #[.int .i64 0, .string ⟨#[]⟩, .int .i64 0]) 3 32 Try.underlying77 hi hz0 hz1 hz2 rfl (by decide) (.slice ua2 un2 uc2) (O).length (cellsR (O)) rfl ((app_prep1 HO1.out (HV1.out).size ([⟨0, s, 0⟩] : List Rn))).1 ⟨V1.heap.size, 0, none⟩ 1 1 (cellsR ([⟨0, s, 0⟩] : List Rn)) rfl rfl ((app_prep1 HO1.out (HV1.out).size ([⟨0, s, 0⟩] : List Rn))).2.1 (oneCellR _) (by decide) (by have := HM.out; (try simp only [List.length_append, List.length_cons, List.length_nil]); unfold maxLen; omega) (by have := HM.out; (try simp only [List.length_append, List.length_cons, List.length_nil]); omega) ((app_prep1 HO1.out (HV1.out).size ([⟨0, s, 0⟩] : List Rn))).2.2.1 (V1.heap.size + 1) ((app_prep1 HO1.out (HV1.out).size ([⟨0, s, 0⟩] : List Rn))).2.2.2 ?_; intro ggWA1 cWA1 WA1 hr hgr hat hltA; have HQ1 := hide (app_done HO1.out (HV1.out).size HV1.out ([⟨0, s, 0⟩] : List Rn) hr (only_then (Only.alloc _ _ _) hgr)); clear hr hgr hat hltA; obtain ⟨t0, t1, t2⟩ := cell_X (xk := (n : Int)) (xa := ⟨#[]⟩) (xd := 0) HC.out HQ1.out.2 HLT.out HY.out))
                    go_roundw
                    case rel => exact ⟨j + 1, k + n, 0, ⟨#[]⟩, by go_num, rfl, rfl, by simp, by have := HLT.out; omega, hide ⟨_, HR2.out, by rw [HE.out]; exact own_len (HQ1.out.1) (by simp), HQ1.out.2⟩⟩
                    case measure => simp [intOf]; have := HLT.out; omega
                  · have zd' : (0 : Int) < (d : Int) := by omega
                    have HE : Hid (O ++ (addL s.data.toList ++ dropL d) = O ++ ([⟨0, s, 0⟩] : List Rn) ++ ([⟨0, ⟨#[]⟩, (d : Int)⟩] : List Rn)) := hide (by rw [addL_yes za, dropL_yes zd]; simp)
                    have HR2 : Hid (RJ R (j + 1) (O ++ (addL s.data.toList ++ dropL d)) (k + n) [] 0) := hide (.inl ⟨hlt, hR2, by have := len_two O s.data.toList d; omega⟩)
                    clear hR2 hRN
                    go_wp2_with (first
                      | (go_at_call 100; refine (HK.out _).mono ?_; rintro e V1 ⟨rfl, hb⟩; have HO1 := hide (HO.out.up hb); have HV1 := hide (HBL.out.trans (hb.mono HBL.out.size)); have y0 := (hb.cell (p := ⟨b, off + j * 3, none⟩) (lt_of_cell s0)).trans s0; have y1 := (hb.cell (p := ⟨b, off + j * 3 + 1, none⟩) (lt_of_cell s1)).trans s1; have y2 := (hb.cell (p := ⟨b, off + j * 3 + 2, none⟩) (lt_of_cell s2)).trans s2; clear hb)
                      | (at_builtin; refine wpList_append_lies _ rfl (.tmp 60) (.tmp 63) 77 rfl V.heap.size 91 i0 (.agg #[.int .i64 0, .string ⟨#[]⟩, .int .i64 0]) 3 32 Try.underlying77 hi hz0 hz1 hz2 rfl (by decide) (.slice ua2 un2 uc2) (O).length (cellsR (O)) rfl ((app_prep1 HO1.out (HV1.out).size ([⟨0, s, 0⟩] : List Rn))).1 ⟨V1.heap.size, 0, none⟩ 1 1 (cellsR ([⟨0, s, 0⟩] : List Rn)) rfl rfl ((app_prep1 HO1.out (HV1.out).size ([⟨0, s, 0⟩] : List Rn))).2.1 (oneCellR _) (by decide) (by have := HM.out; (try simp only [List.length_append, List.length_cons, List.length_nil]); unfold maxLen; omega) (by have := HM.out; (try simp only [List.length_append, List.length_cons, List.length_nil]); omega) ((app_prep1 HO1.out (HV1.out).size ([⟨0, s, 0⟩] : List Rn))).2.2.1 (V1.heap.size + 1) ((app_prep1 HO1.out (HV1.out).size ([⟨0, s, 0⟩] : List Rn))).2.2.2 ?_; intro ggWA1 cWA1 WA1 hr hgr hat hltA; have HQ1 := hide (app_done HO1.out (HV1.out).size HV1.out ([⟨0, s, 0⟩] : List Rn) hr (only_then (Only.alloc _ _ _) hgr)); clear hr hgr hat hltA)
                      | (at_builtin; refine wpList_append_lies _ rfl (.tmp 67) (.tmp 70) 77 rfl V.heap.size 91 i0 (.agg #[.int .i64 0, .string ⟨#[]⟩, .int .i64 0]) 3 32 Try.underlying77 hi hz0 hz1 hz2 rfl (by decide) (.slice (some ⟨ggWA1, 0, none⟩) ((O).length + 1) cWA1) (O ++ ([⟨0, s, 0⟩] : List Rn)).length (cellsR (O ++ ([⟨0, s, 0⟩] : List Rn))) rfl ((app_prep1 HQ1.out.1 (HQ1.out.2).size ([⟨0, ⟨#[]⟩, (d : Int)⟩] : List Rn))).1 ⟨WA1.heap.size, 0, none⟩ 1 1 (cellsR ([⟨0, ⟨#[]⟩, (d : Int)⟩] : List Rn)) rfl rfl ((app_prep1 HQ1.out.1 (HQ1.out.2).size ([⟨0, ⟨#[]⟩, (d : Int)⟩] : List Rn))).2.1 (oneCellR _) (by decide) (by have := HM.out; (try simp only [List.length_append, List.length_cons, List.length_nil]); unfold maxLen; omega) (by have := HM.out; (try simp only [List.length_append, List.length_cons, List.length_nil]); omega) ((app_prep1 HQ1.out.1 (HQ1.out.2).size ([⟨0, ⟨#[]⟩, (d : Int)⟩] : List Rn))).2.2.1 (WA1.heap.size + 1) ((app_prep1 HQ1.out.1 (HQ1.out.2).size ([⟨0, ⟨#[]⟩, (d : Int)⟩] : List Rn))).2.2.2 ?_; intro ggWA2 cWA2 WA2 hr hgr hat hltA; have HQ2 := hide (app_done HQ1.out.1 (HQ1.out.2).size HQ1.out.2 ([⟨0, ⟨#[]⟩, (d : Int)⟩] : List Rn) hr (only_then (Only.alloc _ _ _) hgr)); clear hr hgr hat hltA; obtain ⟨t0, t1, t2⟩ := cell_X (xk := (n : Int)) (xa := ⟨#[]⟩) (xd := 0) HC.out HQ2.out.2 HLT.out HY.out))
                    go_roundw
                    case rel => exact ⟨j + 1, k + n, 0, ⟨#[]⟩, by go_num, rfl, rfl, by simp, by have := HLT.out; omega, hide ⟨_, HR2.out, by rw [HE.out]; exact own_len (HQ2.out.1) (by simp), HQ2.out.2⟩⟩
                    case measure => simp [intOf]; have := HLT.out; omega
              · have hR2 := hRN.add ha
                rw [← hsn] at hR2
                have hb2 := hR2.bounds
                obtain ⟨xa, hxa⟩ : ∃ xa : ByteArray, xa = ⟨ab.toArray⟩ := ⟨_, rfl⟩
                obtain ⟨xd, hxd⟩ : ∃ xd : Int, xd = 0 := ⟨_, rfl⟩
                have HY2 : Hid (R.getD j rn0 = ⟨0, xa, xd⟩) := hide (by rw [HY.out, hxa, hxd]; rfl)
                replace s0 : wr.cell? ⟨b, off + j * 3, none⟩ = some (.int .i64 0) := s0
                replace s1 : wr.cell? ⟨b, off + j * 3 + 1, none⟩ = some (.string xa) := by rw [hxa]; exact s1
                replace s2 : wr.cell? ⟨b, off + j * 3 + 2, none⟩ = some (.int .i64 xd) := by rw [hxd]; exact s2
                have hkd := rkind_any 0 xd xa
                rw [show (⟨0, xa, xd⟩ : Rn) = rA ab from (by rw [hxa, hxd]; rfl), kind_rA ha] at hkd
                have hzs : xa.size ≤ tOut (expand R) := by
                  have h := htk1.2; rw [hsn, expand_append, tOut_append, expand_one, toks_rA ha, tOut_A] at h; rw [hxa]; simp [ByteArray.size]; omega
                have hss : s.data.toList.length = s.size := Array.length_toList
                have wz : ¬ 9223372036854775807 < s.size + xa.size := by omega
                have wd : IntKind.i64.wrap ((d : Int) + xd) = (d : Int) + xd := by rw [IntKind.wrap_i64]; omega
                have HD : Hid ((d : Int) + xd = ((d : Nat) : Int)) := hide (by rw [hxd]; omega)
                have hR3 : RJ R (j + 1) (O ++ keepL k) 0 (s ++ xa).data.toList d := .inl ⟨hlt, by rw [hxa]; simpa using hR2, by have := len_one O k; omega⟩
                clear hxa hxd hzs hss
                replace hkd : ∀ W : World, Calls Try.prog 100 #[.agg #[.int .i64 0, .string xa, .int .i64 xd]] W fun e W' => e = .returned (.int .i64 2) ∧ Below W.heap.size W W' := hkd
                have HK := hide hkd
                have HR3 := hide hR3
                clear hkd hsn hkn htk htk1 hF hbd hb2 hR2 hR3 hRN
                by_cases zk : k = 0
                · have zk' : ¬ (0 : Int) < (k : Int) := by omega
                  have HE : Hid (O ++ keepL k = O) := hide (by rw [keepL_no zk, List.append_nil])
                  go_wp2_with (first
                    | (go_at_call 100; refine (HK.out _).mono ?_; rintro e V1 ⟨rfl, hb⟩; have HO1 := hide (HO.out.up hb); have HV1 := hide (HBL.out.trans (hb.mono HBL.out.size)); have y0 := (hb.cell (p := ⟨b, off + j * 3, none⟩) (lt_of_cell s0)).trans s0; have y1 := (hb.cell (p := ⟨b, off + j * 3 + 1, none⟩) (lt_of_cell s1)).trans s1; have y2 := (hb.cell (p := ⟨b, off + j * 3 + 2, none⟩) (lt_of_cell s2)).trans s2; clear hb))
                  go_roundw
                  case rel => exact ⟨j + 1, 0, d, (s ++ xa), by go_num, rfl, by rw [HD.out], rfl, by have := HLT.out; omega, hide ⟨_, HR3.out, by rw [HE.out]; exact HO1.out, HV1.out⟩⟩
                  case measure => simp [intOf]; have := HLT.out; omega
                · have zk' : (0 : Int) < (k : Int) := by omega
                  have HE : Hid (O ++ keepL k = O ++ ([⟨(k : Int), ⟨#[]⟩, 0⟩] : List Rn)) := hide (by rw [keepL_yes zk])
                  go_wp2_with (first
                    | (go_at_call 100; refine (HK.out _).mono ?_; rintro e V1 ⟨rfl, hb⟩; have HO1 := hide (HO.out.up hb); have HV1 := hide (HBL.out.trans (hb.mono HBL.out.size)); have y0 := (hb.cell (p := ⟨b, off + j * 3, none⟩) (lt_of_cell s0)).trans s0; have y1 := (hb.cell (p := ⟨b, off + j * 3 + 1, none⟩) (lt_of_cell s1)).trans s1; have y2 := (hb.cell (p := ⟨b, off + j * 3 + 2, none⟩) (lt_of_cell s2)).trans s2; clear hb)
                    | (at_builtin; refine wpList_append_lies _ rfl (.tmp 81) (.tmp 84) 77 rfl V.heap.size 91 i0 (.agg #[.int .i64 0, .string ⟨#[]⟩, .int .i64 0]) 3 32 Try.underlying77 hi hz0 hz1 hz2 rfl (by decide) (.slice ua2 un2 uc2) (O).length (cellsR (O)) rfl ((app_prep1 HO1.out (HV1.out).size ([⟨(k : Int), ⟨#[]⟩, 0⟩] : List Rn))).1 ⟨V1.heap.size, 0, none⟩ 1 1 (cellsR ([⟨(k : Int), ⟨#[]⟩, 0⟩] : List Rn)) rfl rfl ((app_prep1 HO1.out (HV1.out).size ([⟨(k : Int), ⟨#[]⟩, 0⟩] : List Rn))).2.1 (oneCellR _) (by decide) (by have := HM.out; (try simp only [List.length_append, List.length_cons, List.length_nil]); unfold maxLen; omega) (by have := HM.out; (try simp only [List.length_append, List.length_cons, List.length_nil]); omega) ((app_prep1 HO1.out (HV1.out).size ([⟨(k : Int), ⟨#[]⟩, 0⟩] : List Rn))).2.2.1 (V1.heap.size + 1) ((app_prep1 HO1.out (HV1.out).size ([⟨(k : Int), ⟨#[]⟩, 0⟩] : List Rn))).2.2.2 ?_; intro ggWA1 cWA1 WA1 hr hgr hat hltA; have HQ1 := hide (app_done HO1.out (HV1.out).size HV1.out ([⟨(k : Int), ⟨#[]⟩, 0⟩] : List Rn) hr (only_then (Only.alloc _ _ _) hgr)); clear hr hgr hat hltA; obtain ⟨t0, t1, t2⟩ := cell_X HC.out HQ1.out.2 HLT.out HY2.out))
                  go_roundw
                  case rel => exact ⟨j + 1, 0, d, (s ++ xa), by go_num, rfl, by rw [HD.out], rfl, by have := HLT.out; omega, hide ⟨_, HR3.out, by rw [HE.out]; exact HQ1.out.1, HQ1.out.2⟩⟩
                  case measure => simp [intOf]; have := HLT.out; omega
              · have hR2 := hRN.drop hn
                rw [← hsn] at hR2
                have hb2 := hR2.bounds
                obtain ⟨xa, hxa⟩ : ∃ xa : ByteArray, xa = ⟨#[]⟩ := ⟨_, rfl⟩
                obtain ⟨xd, hxd⟩ : ∃ xd : Int, xd = (n : Int) := ⟨_, rfl⟩
                have HY2 : Hid (R.getD j rn0 = ⟨0, xa, xd⟩) := hide (by rw [HY.out, hxa, hxd]; rfl)
                replace s0 : wr.cell? ⟨b, off + j * 3, none⟩ = some (.int .i64 0) := s0
                replace s1 : wr.cell? ⟨b, off + j * 3 + 1, none⟩ = some (.string xa) := by rw [hxa]; exact s1
                replace s2 : wr.cell? ⟨b, off + j * 3 + 2, none⟩ = some (.int .i64 xd) := by rw [hxd]; exact s2
                have hkd := rkind_any 0 xd xa
                rw [show (⟨0, xa, xd⟩ : Rn) = rD n from (by rw [hxa, hxd]; rfl), kind_rD hn] at hkd
                have hzs : xa.size ≤ tOut (expand R) := by
                  rw [hxa]; simp [ByteArray.size]
                have hss : s.data.toList.length = s.size := Array.length_toList
                have wz : ¬ 9223372036854775807 < s.size + xa.size := by omega
                have wd : IntKind.i64.wrap ((d : Int) + xd) = (d : Int) + xd := by rw [IntKind.wrap_i64]; omega
                have HD : Hid ((d : Int) + xd = (((d + n) : Nat) : Int)) := hide (by rw [hxd]; omega)
                have hR3 : RJ R (j + 1) (O ++ keepL k) 0 (s ++ xa).data.toList (d + n) := .inl ⟨hlt, by rw [hxa]; simpa using hR2, by have := len_one O k; omega⟩
                clear hxa hxd hzs hss
                replace hkd : ∀ W : World, Calls Try.prog 100 #[.agg #[.int .i64 0, .string xa, .int .i64 xd]] W fun e W' => e = .returned (.int .i64 3) ∧ Below W.heap.size W W' := hkd
                have HK := hide hkd
                have HR3 := hide hR3
                clear hkd hsn hkn htk htk1 hF hbd hb2 hR2 hR3 hRN
                by_cases zk : k = 0
                · have zk' : ¬ (0 : Int) < (k : Int) := by omega
                  have HE : Hid (O ++ keepL k = O) := hide (by rw [keepL_no zk, List.append_nil])
                  go_wp2_with (first
                    | (go_at_call 100; refine (HK.out _).mono ?_; rintro e V1 ⟨rfl, hb⟩; have HO1 := hide (HO.out.up hb); have HV1 := hide (HBL.out.trans (hb.mono HBL.out.size)); have y0 := (hb.cell (p := ⟨b, off + j * 3, none⟩) (lt_of_cell s0)).trans s0; have y1 := (hb.cell (p := ⟨b, off + j * 3 + 1, none⟩) (lt_of_cell s1)).trans s1; have y2 := (hb.cell (p := ⟨b, off + j * 3 + 2, none⟩) (lt_of_cell s2)).trans s2; clear hb))
                  go_roundw
                  case rel => exact ⟨j + 1, 0, (d + n), (s ++ xa), by go_num, rfl, by rw [HD.out], rfl, by have := HLT.out; omega, hide ⟨_, HR3.out, by rw [HE.out]; exact HO1.out, HV1.out⟩⟩
                  case measure => simp [intOf]; have := HLT.out; omega
                · have zk' : (0 : Int) < (k : Int) := by omega
                  have HE : Hid (O ++ keepL k = O ++ ([⟨(k : Int), ⟨#[]⟩, 0⟩] : List Rn)) := hide (by rw [keepL_yes zk])
                  go_wp2_with (first
                    | (go_at_call 100; refine (HK.out _).mono ?_; rintro e V1 ⟨rfl, hb⟩; have HO1 := hide (HO.out.up hb); have HV1 := hide (HBL.out.trans (hb.mono HBL.out.size)); have y0 := (hb.cell (p := ⟨b, off + j * 3, none⟩) (lt_of_cell s0)).trans s0; have y1 := (hb.cell (p := ⟨b, off + j * 3 + 1, none⟩) (lt_of_cell s1)).trans s1; have y2 := (hb.cell (p := ⟨b, off + j * 3 + 2, none⟩) (lt_of_cell s2)).trans s2; clear hb)
                    | (at_builtin; refine wpList_append_lies _ rfl (.tmp 81) (.tmp 84) 77 rfl V.heap.size 91 i0 (.agg #[.int .i64 0, .string ⟨#[]⟩, .int .i64 0]) 3 32 Try.underlying77 hi hz0 hz1 hz2 rfl (by decide) (.slice ua2 un2 uc2) (O).length (cellsR (O)) rfl ((app_prep1 HO1.out (HV1.out).size ([⟨(k : Int), ⟨#[]⟩, 0⟩] : List Rn))).1 ⟨V1.heap.size, 0, none⟩ 1 1 (cellsR ([⟨(k : Int), ⟨#[]⟩, 0⟩] : List Rn)) rfl rfl ((app_prep1 HO1.out (HV1.out).size ([⟨(k : Int), ⟨#[]⟩, 0⟩] : List Rn))).2.1 (oneCellR _) (by decide) (by have := HM.out; (try simp only [List.length_append, List.length_cons, List.length_nil]); unfold maxLen; omega) (by have := HM.out; (try simp only [List.length_append, List.length_cons, List.length_nil]); omega) ((app_prep1 HO1.out (HV1.out).size ([⟨(k : Int), ⟨#[]⟩, 0⟩] : List Rn))).2.2.1 (V1.heap.size + 1) ((app_prep1 HO1.out (HV1.out).size ([⟨(k : Int), ⟨#[]⟩, 0⟩] : List Rn))).2.2.2 ?_; intro ggWA1 cWA1 WA1 hr hgr hat hltA; have HQ1 := hide (app_done HO1.out (HV1.out).size HV1.out ([⟨(k : Int), ⟨#[]⟩, 0⟩] : List Rn) hr (only_then (Only.alloc _ _ _) hgr)); clear hr hgr hat hltA; obtain ⟨t0, t1, t2⟩ := cell_X HC.out HQ1.out.2 HLT.out HY2.out))
                  go_roundw
                  case rel => exact ⟨j + 1, 0, (d + n), (s ++ xa), by go_num, rfl, by rw [HD.out], rfl, by have := HLT.out; omega, hide ⟨_, HR3.out, by rw [HE.out]; exact HQ1.out.1, HQ1.out.2⟩⟩
                  case measure => simp [intOf]; have := HLT.out; omega
            · obtain rfl : j = R.length := by omega
              rw [List.take_length] at hRN
              have hEnd := hRN.end_
              have hlt' : ¬ (R.length : Int) < (R.length : Int) := by omega
              clear htk hF hbd hBl
              by_cases zk : k = 0
              · have zk' : ¬ (0 : Int) < (k : Int) := by omega
                have HR3 : Hid (RJ R (R.length + 1) O 0 s.data.toList d) := hide (.inr ⟨rfl, by rw [hEnd, keepL_no zk, List.append_nil], by omega⟩)
                clear hEnd hRN
                go_wp2
                go_roundw
                case rel => exact ⟨R.length + 1, 0, d, s, by go_num, rfl, rfl, rfl, by omega, hide ⟨_, HR3.out, HO.out, HBL.out⟩⟩
                case measure => first | (simp [intOf]; done) | (simp [intOf]; omega)
              · have zk' : (0 : Int) < (k : Int) := by omega
                have HR3 : Hid (RJ R (R.length + 1) (O ++ ([⟨(k : Int), ⟨#[]⟩, 0⟩] : List Rn)) 0 s.data.toList d) := hide (.inr ⟨rfl, by rw [hEnd, keepL_yes zk], by simp; omega⟩)
                clear hEnd hRN
                go_wp2_with (at_builtin; refine wpList_append_lies _ rfl (.tmp 81) (.tmp 84) 77 rfl V.heap.size 91 i0 (.agg #[.int .i64 0, .string ⟨#[]⟩, .int .i64 0]) 3 32 Try.underlying77 hi hz0 hz1 hz2 rfl (by decide) (.slice ua2 un2 uc2) (O).length (cellsR (O)) rfl ((app_prep1 HO.out (HBL.out).size ([⟨(k : Int), ⟨#[]⟩, 0⟩] : List Rn))).1 ⟨wr.heap.size, 0, none⟩ 1 1 (cellsR ([⟨(k : Int), ⟨#[]⟩, 0⟩] : List Rn)) rfl rfl ((app_prep1 HO.out (HBL.out).size ([⟨(k : Int), ⟨#[]⟩, 0⟩] : List Rn))).2.1 (oneCellR _) (by decide) (by have := HM.out; (try simp only [List.length_append, List.length_cons, List.length_nil]); unfold maxLen; omega) (by have := HM.out; (try simp only [List.length_append, List.length_cons, List.length_nil]); omega) ((app_prep1 HO.out (HBL.out).size ([⟨(k : Int), ⟨#[]⟩, 0⟩] : List Rn))).2.2.1 (wr.heap.size + 1) ((app_prep1 HO.out (HBL.out).size ([⟨(k : Int), ⟨#[]⟩, 0⟩] : List Rn))).2.2.2 ?_; intro ggWA1 cWA1 WA1 hr hgr hat hltA; have HQ1 := hide (app_done HO.out (HBL.out).size HBL.out ([⟨(k : Int), ⟨#[]⟩, 0⟩] : List Rn) hr (only_then (Only.alloc _ _ _) hgr)); clear hr hgr hat hltA)
                go_roundw
                case rel => exact ⟨R.length + 1, 0, d, s, by go_num, rfl, rfl, rfl, by omega, hide ⟨_, HR3.out, HQ1.out.1, HQ1.out.2⟩⟩
                case measure => first | (simp [intOf]; done) | (simp [intOf]; omega)
          · have hle' : ¬ ((R.length + 1 : Nat) : Int) ≤ (R.length : Int) := by omega
            have HM : Hid (O.length ≤ 900000) := hide (by omega)
            have HG : Hid (isG (normT (expand R)) = decide ((normT (expand R)).length ≤ 65536)) := hide (isG_normT HF.out.1 HF.out.2)
            have HN : Hid (normR rs = if (normT (expand R)).length ≤ 65536 then normT (expand R) else []) := hide (by
              rw [normR, ← HEX.out]
              by_cases z : (normT (expand R)).length ≤ 65536
              · rw [if_pos z, if_pos ⟨HF.out.1, HF.out.2, z⟩]
              · rw [if_neg z, if_neg (fun h => z h.2.2)])
            have HEnd := hide hEnd
            clear hEnd hBl hOl
            by_cases za : s.toList = []
            · have za' : s.toList.isEmpty = true := by rw [za]; rfl
              by_cases zd : d = 0
              · have zd' : ¬ (0 : Int) < (d : Int) := by omega
                have HE : Hid (normT (expand R) = O) := hide (by rw [HEnd.out]; rw [addL_no za, dropL_no zd]; simp)
                obtain ⟨_, _, e⟩ := HO.out.form
                cases e
                have HPL : Hid ((normT (expand R)).length ≤ 1000000 ∨ True) := hide (.inr trivial)
                have hgd := rgood_any ua2 uc2 (O) wr (HO.out).came (by have := HM.out; simp; omega)
                rw [← HE.out, HG.out] at hgd
                have hCF : CameR wr.heap.size wr ua2 (normT (expand R)) := by rw [HE.out]; exact (HO.out).came
                have HCF := hide hCF
                have HBF := hide (HV.out.trans ((HBL.out).mono HV.out.size))
                clear hCF
                have HLN : Hid (O.length = (normT (expand R)).length) := hide (by rw [HE.out])
                by_cases z : (normT (expand R)).length ≤ 65536
                · rw [decide_eq_true z] at hgd
                  have HNN : Hid (normR rs = normT (expand R)) := hide (by rw [HN.out, if_pos z])
                  clear z
                  have HGD := hide hgd
                  go_wp2_with (go_at_call 52; refine Calls.mono (by have h := HGD.out; rw [← HLN.out] at h; exact h) ?_; rintro e X ⟨rfl, hb⟩; have HX := hide hb; clear hb)
                  go_ret
                  refine ⟨ua2, uc2, by rw [HNN.out]; exact congrArg (fun x => Ending.returned (Value.slice _ x _)) HLN.out, by rw [HNN.out]; exact came_up HCF.out HX.out, HBF.out.trans (HX.out.mono HBF.out.size)⟩
                · rw [decide_eq_false z] at hgd
                  have HNN : Hid (normR rs = []) := hide (by rw [HN.out, if_neg z])
                  clear z
                  have HGD := hide hgd
                  go_wp2_with (go_at_call 52; refine Calls.mono (by have h := HGD.out; rw [← HLN.out] at h; exact h) ?_; rintro e X ⟨rfl, hb⟩; have HX := hide hb; clear hb)
                  go_ret
                  rw [HNN.out]
                  exact ⟨none, 0, rfl, .inl rfl, HBF.out.trans (HX.out.mono HBF.out.size)⟩
              · have zd' : (0 : Int) < (d : Int) := by omega
                have HE : Hid (normT (expand R) = O ++ ([⟨0, ⟨#[]⟩, (d : Int)⟩] : List Rn)) := hide (by rw [HEnd.out]; rw [addL_no za, dropL_yes zd]; simp)
                go_wp2_with (first
                  | (at_builtin; refine wpList_append_lies _ rfl (.tmp 113) (.tmp 116) 77 rfl V.heap.size 91 i0 (.agg #[.int .i64 0, .string ⟨#[]⟩, .int .i64 0]) 3 32 Try.underlying77 hi hz0 hz1 hz2 rfl (by decide) (.slice ua2 un2 uc2) (O).length (cellsR (O)) rfl ((app_prep1 HO.out (HBL.out).size ([⟨0, ⟨#[]⟩, (d : Int)⟩] : List Rn))).1 ⟨wr.heap.size, 0, none⟩ 1 1 (cellsR ([⟨0, ⟨#[]⟩, (d : Int)⟩] : List Rn)) rfl rfl ((app_prep1 HO.out (HBL.out).size ([⟨0, ⟨#[]⟩, (d : Int)⟩] : List Rn))).2.1 (oneCellR _) (by decide) (by have := HM.out; (try simp only [List.length_append, List.length_cons, List.length_nil]); unfold maxLen; omega) (by have := HM.out; (try simp only [List.length_append, List.length_cons, List.length_nil]); omega) ((app_prep1 HO.out (HBL.out).size ([⟨0, ⟨#[]⟩, (d : Int)⟩] : List Rn))).2.2.1 (wr.heap.size + 1) ((app_prep1 HO.out (HBL.out).size ([⟨0, ⟨#[]⟩, (d : Int)⟩] : List Rn))).2.2.2 ?_; intro ggWA2 cWA2 WA2 hr hgr hat hltA; have HQ2 := hide (app_done HO.out (HBL.out).size HBL.out ([⟨0, ⟨#[]⟩, (d : Int)⟩] : List Rn) hr (only_then (Only.alloc _ _ _) hgr)); clear hr hgr hat hltA))
                have HPL : Hid ((normT (expand R)).length ≤ 1000000 ∨ True) := hide (.inr trivial)
                have hgd := rgood_any (some ⟨ggWA2, 0, none⟩) cWA2 (O ++ ([⟨0, ⟨#[]⟩, (d : Int)⟩] : List Rn)) WA2 (HQ2.out.1).came (by have := HM.out; simp; omega)
                rw [← HE.out, HG.out] at hgd
                have hCF : CameR WA2.heap.size WA2 (some ⟨ggWA2, 0, none⟩) (normT (expand R)) := by rw [HE.out]; exact (HQ2.out.1).came
                have HCF := hide hCF
                have HBF := hide (HV.out.trans ((HQ2.out.2).mono HV.out.size))
                clear hCF
                have HLN : Hid (O.length + 1 = (normT (expand R)).length) := hide (by rw [HE.out]; simp)
                by_cases z : (normT (expand R)).length ≤ 65536
                · rw [decide_eq_true z] at hgd
                  have HNN : Hid (normR rs = normT (expand R)) := hide (by rw [HN.out, if_pos z])
                  clear z
                  have HGD := hide hgd
                  go_wp2_with (go_at_call 52; refine Calls.mono (by have h := HGD.out; rw [← HLN.out] at h; exact h) ?_; rintro e X ⟨rfl, hb⟩; have HX := hide hb; clear hb)
                  go_ret
                  refine ⟨(some ⟨ggWA2, 0, none⟩), cWA2, by rw [HNN.out]; exact congrArg (fun x => Ending.returned (Value.slice _ x _)) HLN.out, by rw [HNN.out]; exact came_up HCF.out HX.out, HBF.out.trans (HX.out.mono HBF.out.size)⟩
                · rw [decide_eq_false z] at hgd
                  have HNN : Hid (normR rs = []) := hide (by rw [HN.out, if_neg z])
                  clear z
                  have HGD := hide hgd
                  go_wp2_with (go_at_call 52; refine Calls.mono (by have h := HGD.out; rw [← HLN.out] at h; exact h) ?_; rintro e X ⟨rfl, hb⟩; have HX := hide hb; clear hb)
                  go_ret
                  rw [HNN.out]
                  exact ⟨none, 0, rfl, .inl rfl, HBF.out.trans (HX.out.mono HBF.out.size)⟩
            · have za' : s.toList.isEmpty = false := by simpa using za
              by_cases zd : d = 0
              · have zd' : ¬ (0 : Int) < (d : Int) := by omega
                have HE : Hid (normT (expand R) = O ++ ([⟨0, s, 0⟩] : List Rn)) := hide (by rw [HEnd.out]; rw [addL_yes za, dropL_no zd]; simp)
                go_wp2_with (first
                  | (at_builtin; refine wpList_append_lies _ rfl (.tmp 106) (.tmp 109) 77 rfl V.heap.size 91 i0 (.agg #[.int .i64 0, .string ⟨#[]⟩, .int .i64 0]) 3 32 Try.underlying77 hi hz0 hz1 hz2 rfl (by decide) (.slice ua2 un2 uc2) (O).length (cellsR (O)) rfl ((app_prep1 HO.out (HBL.out).size ([⟨0, s, 0⟩] : List Rn))).1 ⟨wr.heap.size, 0, none⟩ 1 1 (cellsR ([⟨0, s, 0⟩] : List Rn)) rfl rfl ((app_prep1 HO.out (HBL.out).size ([⟨0, s, 0⟩] : List Rn))).2.1 (oneCellR _) (by decide) (by have := HM.out; (try simp only [List.length_append, List.length_cons, List.length_nil]); unfold maxLen; omega) (by have := HM.out; (try simp only [List.length_append, List.length_cons, List.length_nil]); omega) ((app_prep1 HO.out (HBL.out).size ([⟨0, s, 0⟩] : List Rn))).2.2.1 (wr.heap.size + 1) ((app_prep1 HO.out (HBL.out).size ([⟨0, s, 0⟩] : List Rn))).2.2.2 ?_; intro ggWA1 cWA1 WA1 hr hgr hat hltA; have HQ1 := hide (app_done HO.out (HBL.out).size HBL.out ([⟨0, s, 0⟩] : List Rn) hr (only_then (Only.alloc _ _ _) hgr)); clear hr hgr hat hltA))
                have HPL : Hid ((normT (expand R)).length ≤ 1000000 ∨ True) := hide (.inr trivial)
                have hgd := rgood_any (some ⟨ggWA1, 0, none⟩) cWA1 (O ++ ([⟨0, s, 0⟩] : List Rn)) WA1 (HQ1.out.1).came (by have := HM.out; simp; omega)
                rw [← HE.out, HG.out] at hgd
                have hCF : CameR WA1.heap.size WA1 (some ⟨ggWA1, 0, none⟩) (normT (expand R)) := by rw [HE.out]; exact (HQ1.out.1).came
                have HCF := hide hCF
                have HBF := hide (HV.out.trans ((HQ1.out.2).mono HV.out.size))
                clear hCF
                have HLN : Hid (O.length + 1 = (normT (expand R)).length) := hide (by rw [HE.out]; simp)
                by_cases z : (normT (expand R)).length ≤ 65536
                · rw [decide_eq_true z] at hgd
                  have HNN : Hid (normR rs = normT (expand R)) := hide (by rw [HN.out, if_pos z])
                  clear z
                  have HGD := hide hgd
                  go_wp2_with (go_at_call 52; refine Calls.mono (by have h := HGD.out; rw [← HLN.out] at h; exact h) ?_; rintro e X ⟨rfl, hb⟩; have HX := hide hb; clear hb)
                  go_ret
                  refine ⟨(some ⟨ggWA1, 0, none⟩), cWA1, by rw [HNN.out]; exact congrArg (fun x => Ending.returned (Value.slice _ x _)) HLN.out, by rw [HNN.out]; exact came_up HCF.out HX.out, HBF.out.trans (HX.out.mono HBF.out.size)⟩
                · rw [decide_eq_false z] at hgd
                  have HNN : Hid (normR rs = []) := hide (by rw [HN.out, if_neg z])
                  clear z
                  have HGD := hide hgd
                  go_wp2_with (go_at_call 52; refine Calls.mono (by have h := HGD.out; rw [← HLN.out] at h; exact h) ?_; rintro e X ⟨rfl, hb⟩; have HX := hide hb; clear hb)
                  go_ret
                  rw [HNN.out]
                  exact ⟨none, 0, rfl, .inl rfl, HBF.out.trans (HX.out.mono HBF.out.size)⟩
              · have zd' : (0 : Int) < (d : Int) := by omega
                have HE : Hid (normT (expand R) = O ++ ([⟨0, s, 0⟩] : List Rn) ++ ([⟨0, ⟨#[]⟩, (d : Int)⟩] : List Rn)) := hide (by rw [HEnd.out]; rw [addL_yes za, dropL_yes zd]; simp)
                go_wp2_with (first
                  | (at_builtin; refine wpList_append_lies _ rfl (.tmp 106) (.tmp 109) 77 rfl V.heap.size 91 i0 (.agg #[.int .i64 0, .string ⟨#[]⟩, .int .i64 0]) 3 32 Try.underlying77 hi hz0 hz1 hz2 rfl (by decide) (.slice ua2 un2 uc2) (O).length (cellsR (O)) rfl ((app_prep1 HO.out (HBL.out).size ([⟨0, s, 0⟩] : List Rn))).1 ⟨wr.heap.size, 0, none⟩ 1 1 (cellsR ([⟨0, s, 0⟩] : List Rn)) rfl rfl ((app_prep1 HO.out (HBL.out).size ([⟨0, s, 0⟩] : List Rn))).2.1 (oneCellR _) (by decide) (by have := HM.out; (try simp only [List.length_append, List.length_cons, List.length_nil]); unfold maxLen; omega) (by have := HM.out; (try simp only [List.length_append, List.length_cons, List.length_nil]); omega) ((app_prep1 HO.out (HBL.out).size ([⟨0, s, 0⟩] : List Rn))).2.2.1 (wr.heap.size + 1) ((app_prep1 HO.out (HBL.out).size ([⟨0, s, 0⟩] : List Rn))).2.2.2 ?_; intro ggWA1 cWA1 WA1 hr hgr hat hltA; have HQ1 := hide (app_done HO.out (HBL.out).size HBL.out ([⟨0, s, 0⟩] : List Rn) hr (only_then (Only.alloc _ _ _) hgr)); clear hr hgr hat hltA)
                  | (at_builtin; refine wpList_append_lies _ rfl (.tmp 113) (.tmp 116) 77 rfl V.heap.size 91 i0 (.agg #[.int .i64 0, .string ⟨#[]⟩, .int .i64 0]) 3 32 Try.underlying77 hi hz0 hz1 hz2 rfl (by decide) (.slice (some ⟨ggWA1, 0, none⟩) ((O).length + 1) cWA1) (O ++ ([⟨0, s, 0⟩] : List Rn)).length (cellsR (O ++ ([⟨0, s, 0⟩] : List Rn))) rfl ((app_prep1 HQ1.out.1 (HQ1.out.2).size ([⟨0, ⟨#[]⟩, (d : Int)⟩] : List Rn))).1 ⟨WA1.heap.size, 0, none⟩ 1 1 (cellsR ([⟨0, ⟨#[]⟩, (d : Int)⟩] : List Rn)) rfl rfl ((app_prep1 HQ1.out.1 (HQ1.out.2).size ([⟨0, ⟨#[]⟩, (d : Int)⟩] : List Rn))).2.1 (oneCellR _) (by decide) (by have := HM.out; (try simp only [List.length_append, List.length_cons, List.length_nil]); unfold maxLen; omega) (by have := HM.out; (try simp only [List.length_append, List.length_cons, List.length_nil]); omega) ((app_prep1 HQ1.out.1 (HQ1.out.2).size ([⟨0, ⟨#[]⟩, (d : Int)⟩] : List Rn))).2.2.1 (WA1.heap.size + 1) ((app_prep1 HQ1.out.1 (HQ1.out.2).size ([⟨0, ⟨#[]⟩, (d : Int)⟩] : List Rn))).2.2.2 ?_; intro ggWA2 cWA2 WA2 hr hgr hat hltA; have HQ2 := hide (app_done HQ1.out.1 (HQ1.out.2).size HQ1.out.2 ([⟨0, ⟨#[]⟩, (d : Int)⟩] : List Rn) hr (only_then (Only.alloc _ _ _) hgr)); clear hr hgr hat hltA))
                have HPL : Hid ((normT (expand R)).length ≤ 1000000 ∨ True) := hide (.inr trivial)
                have hgd := rgood_any (some ⟨ggWA2, 0, none⟩) cWA2 (O ++ ([⟨0, s, 0⟩] : List Rn) ++ ([⟨0, ⟨#[]⟩, (d : Int)⟩] : List Rn)) WA2 (HQ2.out.1).came (by have := HM.out; simp; omega)
                rw [← HE.out, HG.out] at hgd
                have hCF : CameR WA2.heap.size WA2 (some ⟨ggWA2, 0, none⟩) (normT (expand R)) := by rw [HE.out]; exact (HQ2.out.1).came
                have HCF := hide hCF
                have HBF := hide (HV.out.trans ((HQ2.out.2).mono HV.out.size))
                clear hCF
                have HLN : Hid (O.length + 1 + 1 = (normT (expand R)).length) := hide (by rw [HE.out]; simp)
                by_cases z : (normT (expand R)).length ≤ 65536
                · rw [decide_eq_true z] at hgd
                  have HNN : Hid (normR rs = normT (expand R)) := hide (by rw [HN.out, if_pos z])
                  clear z
                  have HGD := hide hgd
                  go_wp2_with (go_at_call 52; refine Calls.mono (by have h := HGD.out; rw [← HLN.out] at h; exact h) ?_; rintro e X ⟨rfl, hb⟩; have HX := hide hb; clear hb)
                  go_ret
                  refine ⟨(some ⟨ggWA2, 0, none⟩), cWA2, by rw [HNN.out]; exact congrArg (fun x => Ending.returned (Value.slice _ x _)) HLN.out, by rw [HNN.out]; exact came_up HCF.out HX.out, HBF.out.trans (HX.out.mono HBF.out.size)⟩
                · rw [decide_eq_false z] at hgd
                  have HNN : Hid (normR rs = []) := hide (by rw [HN.out, if_neg z])
                  clear z
                  have HGD := hide hgd
                  go_wp2_with (go_at_call 52; refine Calls.mono (by have h := HGD.out; rw [← HLN.out] at h; exact h) ?_; rintro e X ⟨rfl, hb⟩; have HX := hide hb; clear hb)
                  go_ret
                  rw [HNN.out]
                  exact ⟨none, 0, rfl, .inl rfl, HBF.out.trans (HX.out.mono HBF.out.size)⟩
      · rw [if_neg hf] at hsm
        have HN : Hid (normR rs = []) := hide (by rw [normR, if_neg (fun h => hf ⟨h.1, h.2.1⟩)])
        replace hsm : Calls Try.prog 101 #[.slice ua (rightR rs).length uc] wr fun e W' => e = .returned (.tuple #[.int .i64 0, .int .i64 0, .bool false]) ∧ Below wr.heap.size wr W' := hsm
        clear hf
        go_wp2_with (go_at_call 101; refine hsm.mono ?_; rintro e V ⟨rfl, hb⟩; have HV := hide (HI.out.2.trans (hb.mono HI.out.2.size)); clear hb)
        go_ret
        rw [HN.out]
        exact ⟨none, 0, rfl, .inl rfl, HV.out⟩

end Go.Proofs.Ytpmijaplkbmbiaa.E
