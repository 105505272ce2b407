/- The document's Norm, walked. And more of the same. -/
import Derived.Test.YtpmijaplkbmbiaaX4
import Derived.Test.YtpmijaplkbmbiaaX5
import Derived.Test.YtpmijaplkbmbiaaU3
/- The document's Norm, walked. -/
namespace Go.Proofs.Ytpmijaplkbmbiaa.E
open Go.Proofs.Ytpmijaplkbmbiaa Go.RowKit Go.By Go.Shelf
set_option linter.unusedVariables false
set_option linter.unusedSimpArgs false

theorem app_prep1 {wr : World} {B : Nat} {v : Value} {P : List Rn} (h : OwnR wr B v P) (hB : B ≤ wr.heap.size) (L : List Rn) :
    (wr.alloc (.cells (cellsR L).toArray 91)).ownsRow B 91 3 v P.length (cellsR P) ∧
    (∀ i u, (cellsR L)[i]? = some u → (wr.alloc (.cells (cellsR L).toArray 91)).cell? ((⟨wr.heap.size, 0, none⟩ : Addr).add i) = some u) ∧
    B ≤ (wr.alloc (.cells (cellsR L).toArray 91)).heap.size ∧
    (wr.alloc (.cells (cellsR L).toArray 91)).heap.size = wr.heap.size + 1 := by
  refine ⟨World.ownsRow.alloc h _, fun i u hu => ?_, by simp; omega, by simp⟩
  exact World.news_of_block (cs := (cellsR L).toArray) (World.alloc_heap_new wr (.cells (cellsR L).toArray 91)) i u (by simpa using hu)

theorem OwnR.up {W W' : World} {B : Nat} {v : Value} {P : List Rn} (h : OwnR W B v P) (hb : Below W.heap.size W W') : OwnR W' B v P := h.kept fun q hq => hb.block q (h.lt hq).2

def keepL (k : Nat) : List Rn := if k = 0 then [] else [rK k]
def addL (a : List UInt8) : List Rn := if a = [] then [] else [rA a]
def dropL (d : Nat) : List Rn := if d = 0 then [] else [rD d]
theorem flush_parts (k : Nat) (a : List UInt8) (d : Nat) : flush k a d = keepL k ++ (addL a ++ dropL d) := rfl

/-- Where the document's Norm stands behind some right runs. -/
def RN (T : List Rn) (O : List Rn) (kp : Nat) (ad : List UInt8) (dp : Nat) : Prop :=
  (ad = [] ∧ dp = 0 ∧ nscan (expand T) = ⟨O, kp, [], 0⟩) ∨ (kp = 0 ∧ ¬ (ad = [] ∧ dp = 0) ∧ ∃ O' k', O = O' ++ keepL k' ∧ nscan (expand T) = ⟨O', k', ad, dp⟩)

theorem RN.keep {T O : List Rn} {kp dp n : Nat} {ad : List UInt8} (h : RN T O kp ad dp) (hn : n ≠ 0) : RN (T ++ [rK n]) (O ++ (addL ad ++ dropL dp)) (kp + n) [] 0 := by
  rcases h with ⟨rfl, rfl, h⟩ | ⟨rfl, hne, O', k', rfl, h⟩
  · refine .inl ⟨rfl, rfl, ?_⟩
    rw [nscan_snoc, h, nstep_keep0 hn ⟨rfl, rfl⟩]
    simp [addL, dropL]
  · refine .inl ⟨rfl, rfl, ?_⟩
    rw [nscan_snoc, h, nstep_keep1 hn hne, flush_parts]
    simp
theorem RN.add {T O : List Rn} {kp dp : Nat} {ad b : List UInt8} (h : RN T O kp ad dp) (hb : b ≠ []) : RN (T ++ [rA b]) (O ++ keepL kp) 0 (ad ++ b) dp := by
  rcases h with ⟨rfl, rfl, h⟩ | ⟨rfl, hne, O', k', rfl, h⟩
  · exact .inr ⟨rfl, by simp [hb], O, kp, rfl, by rw [nscan_snoc, h, nstep_add hb]⟩
  · exact .inr ⟨rfl, by simp [hb], O', k', by simp [keepL], by rw [nscan_snoc, h, nstep_add hb]⟩
theorem RN.drop {T O : List Rn} {kp dp n : Nat} {ad : List UInt8} (h : RN T O kp ad dp) (hn : n ≠ 0) : RN (T ++ [rD n]) (O ++ keepL kp) 0 ad (dp + n) := by
  rcases h with ⟨rfl, rfl, h⟩ | ⟨rfl, hne, O', k', rfl, h⟩
  · exact .inr ⟨rfl, by simp; omega, O, kp, rfl, by rw [nscan_snoc, h, nstep_drop hn]⟩
  · exact .inr ⟨rfl, by simp; omega, O', k', by simp [keepL], by rw [nscan_snoc, h, nstep_drop hn]⟩
theorem RN.end_ {T O : List Rn} {kp dp : Nat} {ad : List UInt8} (h : RN T O kp ad dp) : normT (expand T) = (O ++ keepL kp) ++ (addL ad ++ dropL dp) := by
  rcases h with ⟨rfl, rfl, h⟩ | ⟨rfl, hne, O', k', rfl, h⟩
  · rw [normT, h, nend, flush_parts, List.append_assoc]
  · rw [normT, h, nend, flush_parts]; simp [keepL]
theorem RN.bounds {T O : List Rn} {kp dp : Nat} {ad : List UInt8} (h : RN T O kp ad dp) : kp ≤ tIn (expand T) ∧ dp ≤ tIn (expand T) ∧ ad.length ≤ tOut (expand T) ∧ O.length ≤ tIn (expand T) + tOut (expand T) + 1 := by
  have b1 := scan_bounds (expand T)
  have b2 := op_len (expand T)
  rcases h with ⟨rfl, rfl, h⟩ | ⟨rfl, hne, O', k', rfl, h⟩
  · rw [h] at b1 b2
    replace b1 : kp ≤ tIn (expand T) ∧ 0 ≤ tIn (expand T) ∧ 0 ≤ tOut (expand T) := b1
    replace b2 : O.length ≤ _ := b2
    simp; omega
  · rw [h] at b1 b2
    replace b1 : k' ≤ tIn (expand T) ∧ dp ≤ tIn (expand T) ∧ ad.length ≤ tOut (expand T) := b1
    replace b2 : O'.length ≤ _ := b2
    have : (keepL k').length ≤ 1 := by unfold keepL; split <;> simp
    rw [List.length_append]; omega

theorem take_le {R : List Rn} (k : Nat) : tIn (expand (R.take k)) ≤ tIn (expand R) ∧ tOut (expand (R.take k)) ≤ tOut (expand R) := by
  have := congrArg expand (List.take_append_drop k R)
  rw [expand_append] at this
  rw [← this, tIn_append, tOut_append]; omega

/-- What the second loop holds. -/
def R2 (B : Nat) (W3 : World) (T : List Rn) (kp dp : Nat) (s : ByteArray) (u : Value) (wr : World) : Prop :=
  ∃ O, RN T O kp s.data.toList dp ∧ OwnR wr B u O ∧ Below B W3 wr

theorem own_len {W : World} {B n m c : Nat} {a : Option Addr} {P : List Rn} (h : OwnR W B (.slice a n c) P) (e : n = m) : OwnR W B (.slice a m c) P := e ▸ h

/-- Where the second loop stands. -/
def RJ (R : List Rn) (j : Nat) (O : List Rn) (k : Nat) (ad : List UInt8) (d : Nat) : Prop :=
  (j ≤ R.length ∧ RN (R.take j) O k ad d ∧ O.length ≤ 2 * j) ∨ (j = R.length + 1 ∧ normT (expand R) = O ++ (addL ad ++ dropL d) ∧ O.length ≤ 2 * R.length + 1)

theorem len_two (O : List Rn) (a : List UInt8) (d : Nat) : (O ++ (addL a ++ dropL d)).length ≤ O.length + 2 := by
  have h1 : (addL a).length ≤ 1 := by unfold addL; split <;> simp
  have h2 : (dropL d).length ≤ 1 := by unfold dropL; split <;> simp
  simp only [List.length_append]; omega
theorem len_one (O : List Rn) (k : Nat) : (O ++ keepL k).length ≤ O.length + 1 := by
  have h1 : (keepL k).length ≤ 1 := by unfold keepL; split <;> simp
  simp only [List.length_append]; omega


theorem addL_no {s : ByteArray} (h : s.toList = []) : addL s.data.toList = [] := by rw [toList_data] at h; simp [addL, h]
theorem addL_yes {s : ByteArray} (h : ¬ s.toList = []) : addL s.data.toList = [⟨0, s, 0⟩] := by rw [toList_data] at h; rw [addL, if_neg h, rA]
theorem dropL_no {d : Nat} (h : d = 0) : dropL d = [] := by simp [dropL, h]
theorem dropL_yes {d : Nat} (h : ¬ d = 0) : dropL d = [⟨0, ⟨#[]⟩, (d : Int)⟩] := by rw [dropL, if_neg h]; rfl
theorem keepL_no {d : Nat} (h : d = 0) : keepL d = [] := by simp [keepL, h]
theorem keepL_yes {d : Nat} (h : ¬ d = 0) : keepL d = [⟨(d : Int), ⟨#[]⟩, 0⟩] := by rw [keepL, if_neg h]; rfl

theorem came_cell {W W' : World} {b off j : Nat} {R : List Rn} (h : CameR W.heap.size W (some ⟨b, off, none⟩) R) (hb : Below W.heap.size W W') (hj : j < R.length) :
    W'.cell? ⟨b, off + j * 3, none⟩ = some (.int .i64 (R.getD j rn0).keep) ∧ W'.cell? ⟨b, off + j * 3 + 1, none⟩ = some (.string (R.getD j rn0).add) ∧ W'.cell? ⟨b, off + j * 3 + 2, none⟩ = some (.int .i64 (R.getD j rn0).drop) := by
  obtain ⟨b', off', e, h1, h2, h3⟩ := came_at (h.below hb) hj
  cases e; exact ⟨h1, h2, h3⟩
theorem cell_X {W W' : World} {b off j : Nat} {xk xd : Int} {xa : ByteArray} {R : List Rn} (h : CameR W.heap.size W (some ⟨b, off, none⟩) R) (hb : Below W.heap.size W W') (hj : j < R.length) (hy : R.getD j rn0 = ⟨xk, xa, xd⟩) :
    W'.cell? ⟨b, off + j * 3, none⟩ = some (.int .i64 xk) ∧ W'.cell? ⟨b, off + j * 3 + 1, none⟩ = some (.string xa) ∧ W'.cell? ⟨b, off + j * 3 + 2, none⟩ = some (.int .i64 xd) := by
  have := came_cell h hb hj
  rw [hy] at this; exact this

theorem lt_of_cell {W : World} {b o : Nat} {v : Value} (h : W.cell? ⟨b, o, none⟩ = some v) : b < W.heap.size := World.block_lt_of_cell? W _ h

set_option maxRecDepth 100000 in
set_option maxHeartbeats 8000000 in
theorem rnorm_any (a : Option Addr) (cap : Nat) (rs : List Rn) (w : World) (hS : CameR w.heap.size w a rs) (hl : rs.length ≤ 400000) :
    Calls Try.prog 61 #[.slice a rs.length cap] w fun e W' => Gives w.heap.size w (normR rs) e W' := by
  obtain ⟨i0, hi, hz0, hz1, hz2⟩ := info_parts (show (Try.prog.info? 91).map (fun i => (i.zero, i.size, i.bytes)) = some (some (.agg #[.int .i64 0, .string ⟨#[]⟩, .int .i64 0]), 3, 32) by kernel_rfl)
  have HS := hide hS
  clear hS
  go_enter Try.func61, Try.ntmps61
  go_wp2_with fail
  go_loopw [3, 4] (fun u i wr => ∃ k : Nat, i = .int .i64 (k : Int) ∧ k ≤ rs.length ∧ Hid (OwnR wr w.heap.size u (rightR (rs.take k)) ∧ Below w.heap.size w wr)) (fun _ i _ => rs.length - (intOf i).toNat)
  case atStart => exact ⟨0, rfl, by omega, hide ⟨OwnR.nil _ _, Below.refl _ _⟩⟩
  case round =>
    obtain ⟨k, rfl, hk, HI⟩ := hrel
    obtain ⟨ua, un, uc, rfl⟩ := form3 HI.out.1
    by_cases hlt : k < rs.length
    · have hlt' : (k : Int) < (rs.length : Int) := by omega
      obtain ⟨b, off, rfl, s0, s1, s2⟩ := came_at (HS.out.below HI.out.2) hlt
      have hsn : rs.take (k + 1) = rs.take k ++ [rs.getD k rn0] := by rw [List.take_succ_eq_append_getElem hlt]; simp [List.getD, hlt]
      obtain ⟨y, hy⟩ : ∃ y, y = rs.getD k rn0 := ⟨_, rfl⟩
      rw [← hy] at s0 s1 s2 hsn
      obtain ⟨xk, xa, xd⟩ := y
      dsimp only at s0 s1 s2
      have HLT := hide hlt
      have w6 : IntKind.i64.wrap ((k : Int) + 1) = (k : Int) + 1 := by rw [IntKind.wrap_i64]; omega
      have HM : Hid ((rightR (rs.take k)).length ≤ 400000) := hide (by have := List.length_filter_le (fun r => decide (kind r ≠ 0)) (rs.take k); rw [List.length_take] at this; unfold rightR; omega)
      have hkd := rkind_any xk xd xa
      obtain ⟨kx, hkx⟩ : ∃ kx, kx = kind ⟨xk, xa, xd⟩ := ⟨_, rfl⟩
      rw [← hkx] at hkd
      by_cases h0 : kx = 0
      · have EP : Hid (rightR (rs.take (k + 1)) = rightR (rs.take k)) := hide (by
          rw [hsn, rightR, List.filter_append, List.filter_cons_of_neg (by rw [← hkx]; simp [h0]), List.filter_nil, List.append_nil]; rfl)
        subst h0
        have HK := hide hkd
        clear hsn hy hkx hkd
        go_wp2_with (go_at_call 100; refine (HK.out _).mono ?_; rintro e V ⟨rfl, hb⟩; have HB := hide hb; clear hb)
        go_roundw
        case rel => exact ⟨k + 1, by go_num, by have := HLT.out; omega, hide ⟨by rw [EP.out]; exact HI.out.1.up HB.out, HI.out.2.trans (HB.out.mono HI.out.2.size)⟩⟩
        case measure => simp [intOf]; have := HLT.out; omega
      · have h0' : (0 : Int) < (kx : Int) := by omega
        have EP : Hid (rightR (rs.take (k + 1)) = rightR (rs.take k) ++ [⟨xk, xa, xd⟩]) := hide (by
          rw [hsn, rightR, List.filter_append, List.filter_cons_of_pos (by rw [← hkx]; simp [h0]), List.filter_nil]; rfl)
        have HK := hide hkd
        clear hsn hy hkx hkd
        generalize rightR (rs.take k) = P at *
        go_wp2_with (first
          | (go_at_call 100; refine (HK.out _).mono ?_; rintro e V ⟨rfl, hb⟩; have HO := hide (HI.out.1.up hb); have HV := hide (HI.out.2.trans (hb.mono HI.out.2.size)); have HP := hide (app_prep1 HO.out HV.out.size [⟨xk, xa, xd⟩]); have y0 := (hb.cell (p := ⟨b, off + k * 3, none⟩) (lt_of_cell s0)).trans s0; have y1 := (hb.cell (p := ⟨b, off + k * 3 + 1, none⟩) (lt_of_cell s1)).trans s1; have y2 := (hb.cell (p := ⟨b, off + k * 3 + 2, none⟩) (lt_of_cell s2)).trans s2; clear hb)
          | (at_builtin; refine wpList_append_lies _ rfl (.tmp 25) (.tmp 30) 77 rfl w.heap.size 91 i0 (.agg #[.int .i64 0, .string ⟨#[]⟩, .int .i64 0]) 3 32 Try.underlying77 hi hz0 hz1 hz2 rfl (by decide) (.slice ua un uc) (P).length (cellsR (P)) rfl (HP.out).1 ⟨V.heap.size, 0, none⟩ 1 1 (cellsR [⟨xk, xa, xd⟩]) rfl rfl (HP.out).2.1 (oneCellR _) (by decide) (by have := HM.out; (try simp only [List.length_append, List.length_cons, List.length_nil]); unfold maxLen; omega) (by have := HM.out; (try simp only [List.length_append, List.length_cons, List.length_nil]); omega) (HP.out).2.2.1 (V.heap.size + 1) (HP.out).2.2.2 ?_; intro ggWA cWA WA hr hgr hat hltA; have HQ := hide (app_done HO.out (HV.out).size HV.out [⟨xk, xa, xd⟩] hr (only_then (Only.alloc _ _ _) hgr)); clear hr hgr hat hltA))
        go_roundw
        case rel => exact ⟨k + 1, by go_num, by have := HLT.out; omega, hide (by rw [EP.out]; exact HQ.out)⟩
        case measure => simp [intOf]; have := HLT.out; omega
    · obtain rfl : k = rs.length := by omega
      rw [List.take_length] at HI
      have HRL : Hid ((rightR rs).length ≤ 400000) := hide (by have := List.length_filter_le (fun r => decide (kind r ≠ 0)) rs; unfold rightR; omega)
      obtain ⟨_, _, e⟩ := HI.out.1.form
      cases e
      have hsm := sums_any ua uc (rightR rs) wr HI.out.1.came (by have := HRL.out; omega) (rightR_all rs)
      rw [sscan_right (rightR_all rs), expand_right] at hsm
      by_cases hf : tIn (expand rs) ≤ 16777216 ∧ tOut (expand rs) ≤ 16777216
      · rw [if_pos hf] at hsm
        replace hsm : Calls Try.prog 101 #[.slice ua (rightR rs).length uc] wr fun e W' => e = .returned (.tuple #[.int .i64 ((tIn (expand rs) : Nat) : Int), .int .i64 ((tOut (expand rs) : Nat) : Int), .bool true]) ∧ Below wr.heap.size wr W' := hsm
        have HRC := hide HI.out.1.came
        have HRA := hide (rightR_all rs)
        have HEX : Hid (expand (rightR rs) = expand rs) := hide (expand_right rs)
        have HF : Hid (tIn (expand (rightR rs)) ≤ 16777216 ∧ tOut (expand (rightR rs)) ≤ 16777216) := hide (by rw [HEX.out]; exact hf)
        have HBI := hide HI.out.2
        clear hf HI
        generalize rightR rs = R at *
        go_wp2_with (go_at_call 101; refine hsm.mono ?_; rintro e V ⟨rfl, hb⟩; have HV := hide (HBI.out.trans (hb.mono HBI.out.size)); have HC := hide (came_up HRC.out hb); clear hb)
        go_loopw [8, 9, 10, 11, 12] (fun u sv dv kv i wr => ∃ (j k d : Nat) (s : ByteArray), i = .int .i64 (j : Int) ∧ sv = .string s ∧ dv = .int .i64 (d : Int) ∧ kv = .int .i64 (k : Int) ∧ j ≤ R.length + 1 ∧ Hid (∃ O, RJ R j O k s.data.toList d ∧ OwnR wr V.heap.size u O ∧ Below V.heap.size V wr)) (fun _ _ _ _ i _ => R.length + 1 - (intOf i).toNat)
        case atStart => exact ⟨0, 0, 0, ⟨#[]⟩, rfl, rfl, rfl, rfl, by omega, hide ⟨[], .inl ⟨by omega, .inl ⟨rfl, rfl, rfl⟩, by simp⟩, OwnR.nil _ _, Below.refl _ _⟩⟩
        case round =>
          obtain ⟨j, k, d, s, rfl, rfl, rfl, rfl, hj, HI⟩ := hrel
          obtain ⟨O, hRJ, hO, hBl⟩ := HI.out
          obtain ⟨ua2, un2, uc2, rfl⟩ := form3 hO
          have HO := hide hO
          have HBL := hide hBl
          have HRLb := HRL.out
          have w6 : IntKind.i64.wrap ((j : Int) + 1) = (j : Int) + 1 := by rw [IntKind.wrap_i64]; omega
          clear hO HI
          rcases hRJ with ⟨hjl, hRN, hOl⟩ | ⟨rfl, hEnd, hOl⟩
          · have hle' : (j : Int) ≤ (R.length : Int) := by omega
            have hbd := hRN.bounds
            have htk := take_le (R := R) j
            have hF := HF.out
            have HM : Hid (O.length ≤ 1000000) := hide (by omega)
            by_cases hlt : j < R.length
            · have hlt' : (j : Int) < (R.length : Int) := by omega
              obtain ⟨b, off, rfl, s0, s1, s2⟩ := came_at (HC.out.below hBl) hlt
              have hsn : R.take (j + 1) = R.take j ++ [R.getD j rn0] := by rw [List.take_succ_eq_append_getElem hlt]; simp [List.getD, hlt]
              have hkn : kind (R.getD j rn0) ≠ 0 := HRA.out _ (by simp [List.getD, hlt])
              have htk1 := take_le (R := R) (j + 1)
              have HLT := hide hlt
              obtain ⟨y, hy⟩ : ∃ y, y = R.getD j rn0 := ⟨_, rfl⟩
              rw [← hy] at s0 s1 s2 hsn hkn
              have HY := hide hy.symm
              clear hy hBl
              rcases kind_cases hkn with ⟨n, hn, rfl⟩ | ⟨ab, ha, rfl⟩ | ⟨n, hn, rfl⟩
              · have hR2 := hRN.keep hn
                rw [← hsn] at hR2
                have hb2 := hR2.bounds
                replace s0 : wr.cell? ⟨b, off + j * 3, none⟩ = some (.int .i64 (n : Int)) := s0
                replace s1 : wr.cell? ⟨b, off + j * 3 + 1, none⟩ = some (.string ⟨#[]⟩) := s1
                replace s2 : wr.cell? ⟨b, off + j * 3 + 2, none⟩ = some (.int .i64 0) := s2
                have wk : IntKind.i64.wrap ((k : Int) + (n : Int)) = (k : Int) + (n : Int) := by rw [IntKind.wrap_i64]; omega
                have hkd := rkind_any (n : Int) 0 ⟨#[]⟩
                rw [show (⟨(n : Int), ⟨#[]⟩, 0⟩ : Rn) = rK n from rfl, kind_rK hn] at hkd
                have HK := hide hkd
                clear hkd hsn hkn htk htk1 hF hbd hb2
                by_cases za : s.toList = []
                · have za' : s.toList.isEmpty = true := by rw [za]; rfl
                  by_cases zd : d = 0
                  · have zd' : ¬ (0 : Int) < (d : Int) := by omega
                    have HE : Hid (O ++ (addL s.data.toList ++ dropL d) = O) := hide (by rw [addL_no za, dropL_no zd]; simp)
                    have HR2 : Hid (RJ R (j + 1) (O ++ (addL s.data.toList ++ dropL d)) (k + n) [] 0) := hide (.inl ⟨hlt, hR2, by have := len_two O s.data.toList d; omega⟩)
                    clear hR2 hRN
                    go_wp2_with (first
                      | (go_at_call 100; refine (HK.out _).mono ?_; rintro e V1 ⟨rfl, hb⟩; have HO1 := hide (HO.out.up hb); have HV1 := hide (HBL.out.trans (hb.mono HBL.out.size)); have y0 := (hb.cell (p := ⟨b, off + j * 3, none⟩) (lt_of_cell s0)).trans s0; have y1 := (hb.cell (p := ⟨b, off + j * 3 + 1, none⟩) (lt_of_cell s1)).trans s1; have y2 := (hb.cell (p := ⟨b, off + j * 3 + 2, none⟩) (lt_of_cell s2)).trans s2; clear hb))
                    go_roundw
                    case rel => exact ⟨j + 1, k + n, 0, ⟨#[]⟩, by go_num, rfl, rfl, by simp, by have := HLT.out; omega, hide ⟨_, HR2.out, by rw [HE.out]; exact own_len (HO1.out) (by simp), HV1.out⟩⟩
                    case measure => simp [intOf]; have := HLT.out; omega
                  · have zd' : (0 : Int) < (d : Int) := by omega
                    have HE : Hid (O ++ (addL s.data.toList ++ dropL d) = O ++ ([⟨0, ⟨#[]⟩, (d : Int)⟩] : List Rn)) := hide (by rw [addL_no za, dropL_yes zd]; simp)
                    have HR2 : Hid (RJ R (j + 1) (O ++ (addL s.data.toList ++ dropL d)) (k + n) [] 0) := hide (.inl ⟨hlt, hR2, by have := len_two O s.data.toList d; omega⟩)
                    clear hR2 hRN
                    go_wp2_with (first
                      | (go_at_call 100; refine (HK.out _).mono ?_; rintro e V1 ⟨rfl, hb⟩; have HO1 := hide (HO.out.up hb); have HV1 := hide (HBL.out.trans (hb.mono HBL.out.size)); have y0 := (hb.cell (p := ⟨b, off + j * 3, none⟩) (lt_of_cell s0)).trans s0; have y1 := (hb.cell (p := ⟨b, off + j * 3 + 1, none⟩) (lt_of_cell s1)).trans s1; have y2 := (hb.cell (p := ⟨b, off + j * 3 + 2, none⟩) (lt_of_cell s2)).trans s2; clear hb)
                      | (at_builtin; refine wpList_append_lies _ rfl (.tmp 67) (.tmp 70) 77 rfl V.heap.size 91 i0 (.agg #[.int .i64 0, .string ⟨#[]⟩, .int .i64 0]) 3 32 Try.underlying77 hi hz0 hz1 hz2 rfl (by decide) (.slice ua2 un2 uc2) (O).length (cellsR (O)) rfl ((app_prep1 HO1.out (HV1.out).size ([⟨0, ⟨#[]⟩, (d : Int)⟩] : List Rn))).1 ⟨V1.heap.size, 0, none⟩ 1 1 (cellsR ([⟨0, ⟨#[]⟩, (d : Int)⟩] : List Rn)) rfl rfl ((app_prep1 HO1.out (HV1.out).size ([⟨0, ⟨#[]⟩, (d : Int)⟩] : List Rn))).2.1 (oneCellR _) (by decide) (by have := HM.out; (try simp only [List.length_append, List.length_cons, List.length_nil]); unfold maxLen; omega) (by have := HM.out; (try simp only [List.length_append, List.length_cons, List.length_nil]); omega) ((app_prep1 HO1.out (HV1.out).size ([⟨0, ⟨#[]⟩, (d : Int)⟩] : List Rn))).2.2.1 (V1.heap.size + 1) ((app_prep1 HO1.out (HV1.out).size ([⟨0, ⟨#[]⟩, (d : Int)⟩] : List Rn))).2.2.2 ?_; intro ggWA2 cWA2 WA2 hr hgr hat hltA; have HQ2 := hide (app_done HO1.out (HV1.out).size HV1.out ([⟨0, ⟨#[]⟩, (d : Int)⟩] : List Rn) hr (only_then (Only.alloc _ _ _) hgr)); clear hr hgr hat hltA; obtain ⟨t0, t1, t2⟩ := cell_X (xk := (n : Int)) (xa := ⟨#[]⟩) (xd := 0) HC.out HQ2.out.2 HLT.out HY.out))
                    go_roundw
                    case rel => exact ⟨j + 1, k + n, 0, ⟨#[]⟩, by go_num, rfl, rfl, by simp, by have := HLT.out; omega, hide ⟨_, HR2.out, by rw [HE.out]; exact own_len (HQ2.out.1) (by simp), HQ2.out.2⟩⟩
                    case measure => simp [intOf]; have := HLT.out; omega
                · have za' : s.toList.isEmpty = false := by simpa using za
                  by_cases zd : d = 0
                  · have zd' : ¬ (0 : Int) < (d : Int) := by omega
                    have HE : Hid (O ++ (addL s.data.toList ++ dropL d) = O ++ ([⟨0, s, 0⟩] : List Rn)) := hide (by rw [addL_yes za, dropL_no zd]; simp)
                    have HR2 : Hid (RJ R (j + 1) (O ++ (addL s.data.toList ++ dropL d)) (k + n) [] 0) := hide (.inl ⟨hlt, hR2, by have := len_two O s.data.toList d; omega⟩)
                    clear hR2 hRN
                    go_wp2_with (first
                      | (go_at_call 100; refine (HK.out _).mono ?_; rintro e V1 ⟨rfl, hb⟩; have HO1 := hide (HO.out.up hb); have HV1 := hide (HBL.out.trans (hb.mono HBL.out.size)); have y0 := (hb.cell (p := ⟨b, off + j * 3, none⟩) (lt_of_cell s0)).trans s0; have y1 := (hb.cell (p := ⟨b, off + j * 3 + 1, none⟩) (lt_of_cell s1)).trans s1; have y2 := (hb.cell (p := ⟨b, off + j * 3 + 2, none⟩) (lt_of_cell s2)).trans s2; clear hb)
                      | (at_builtin; refine wpList_append_lies _ rfl (.tmp 60) (.tmp 63) 77 rfl V.heap.size 91 i0 (.agg #[.int .i64 0, .string ⟨#[]⟩, .int .i64 0]) 3 32 Try.underlying77 hi hz0 hz1 hz2 rfl (by decide) (.slice ua2 un2 uc2) (O).length (cellsR (O)) rfl ((app_prep1 HO1.out (HV1.out).size ([⟨0, s, 0⟩] : List Rn))).1 ⟨V1.heap.size, 0, none⟩ 1 1 (cellsR ([⟨0, s, 0⟩] : List Rn)) rfl rfl ((app_prep1 HO1.out (HV1.out).size ([⟨0, s, 0⟩] : List Rn))).2.1 (oneCellR _) (by decide) (by have := HM.out; (try simp only [List.length_append, List.length_cons, List.length_nil]); unfold maxLen; omega) (by have := HM.out; (try simp only [List.length_append, List.length_cons, List.length_nil]); omega) ((app_prep1 HO1.out (HV1.out).size ([⟨0, s, 0⟩] : List Rn))).2.2.1 (V1.heap.size + 1) ((app_prep1 HO1.out (HV1.out).size ([⟨0, s, 0⟩] : List Rn))).2.2.2 ?_; intro ggWA1 cWA1 WA1 hr hgr hat hltA; have HQ1 := hide (app_done HO1.out (HV1.out).size HV1.out ([⟨0, s, 0⟩] : List Rn) hr (only_then (Only.alloc _ _ _) hgr)); clear hr hgr hat hltA; obtain ⟨t0, t1, t2⟩ := cell_X (xk := (n : Int)) (xa := ⟨#[]⟩) (xd := 0) HC.out HQ1.out.2 HLT.out HY.out))
                    go_roundw
                    case rel => exact ⟨j + 1, k + n, 0, ⟨#[]⟩, by go_num, rfl, rfl, by simp, by have := HLT.out; omega, hide ⟨_, HR2.out, by rw [HE.out]; exact own_len (HQ1.out.1) (by simp), HQ1.out.2⟩⟩
                    case measure => simp [intOf]; have := HLT.out; omega
                  · have zd' : (0 : Int) < (d : Int) := by omega
                    have HE : Hid (O ++ (addL s.data.toList ++ dropL d) = O ++ ([⟨0, s, 0⟩] : List Rn) ++ ([⟨0, ⟨#[]⟩, (d : Int)⟩] : List Rn)) := hide (by rw [addL_yes za, dropL_yes zd]; simp)
                    have HR2 : Hid (RJ R (j + 1) (O ++ (addL s.data.toList ++ dropL d)) (k + n) [] 0) := hide (.inl ⟨hlt, hR2, by have := len_two O s.data.toList d; omega⟩)
                    clear hR2 hRN
                    go_wp2_with (first
                      | (go_at_call 100; refine (HK.out _).mono ?_; rintro e V1 ⟨rfl, hb⟩; have HO1 := hide (HO.out.up hb); have HV1 := hide (HBL.out.trans (hb.mono HBL.out.size)); have y0 := (hb.cell (p := ⟨b, off + j * 3, none⟩) (lt_of_cell s0)).trans s0; have y1 := (hb.cell (p := ⟨b, off + j * 3 + 1, none⟩) (lt_of_cell s1)).trans s1; have y2 := (hb.cell (p := ⟨b, off + j * 3 + 2, none⟩) (lt_of_cell s2)).trans s2; clear hb)
                      | (at_builtin; refine wpList_append_lies _ rfl (.tmp 60) (.tmp 63) 77 rfl V.heap.size 91 i0 (.agg #[.int .i64 0, .string ⟨#[]⟩, .int .i64 0]) 3 32 Try.underlying77 hi hz0 hz1 hz2 rfl (by decide) (.slice ua2 un2 uc2) (O).length (cellsR (O)) rfl ((app_prep1 HO1.out (HV1.out).size ([⟨0, s, 0⟩] : List Rn))).1 ⟨V1.heap.size, 0, none⟩ 1 1 (cellsR ([⟨0, s, 0⟩] : List Rn)) rfl rfl ((app_prep1 HO1.out (HV1.out).size ([⟨0, s, 0⟩] : List Rn))).2.1 (oneCellR _) (by decide) (by have := HM.out; (try simp only [List.length_append, List.length_cons, List.length_nil]); unfold maxLen; omega) (by have := HM.out; (try simp only [List.length_append, List.length_cons, List.length_nil]); omega) ((app_prep1 HO1.out (HV1.out).size ([⟨0, s, 0⟩] : List Rn))).2.2.1 (V1.heap.size + 1) ((app_prep1 HO1.out (HV1.out).size ([⟨0, s, 0⟩] : List Rn))).2.2.2 ?_; intro ggWA1 cWA1 WA1 hr hgr hat hltA; have HQ1 := hide (app_done HO1.out (HV1.out).size HV1.out ([⟨0, s, 0⟩] : List Rn) hr (only_then (Only.alloc _ _ _) hgr)); clear hr hgr hat hltA)
                      | (at_builtin; refine wpList_append_lies _ rfl (.tmp 67) (.tmp 70) 77 rfl V.heap.size 91 i0 (.agg #[.int .i64 0, .string ⟨#[]⟩, .int .i64 0]) 3 32 Try.underlying77 hi hz0 hz1 hz2 rfl (by decide) (.slice (some ⟨ggWA1, 0, none⟩) ((O).length + 1) cWA1) (O ++ ([⟨0, s, 0⟩] : List Rn)).length (cellsR (O ++ ([⟨0, s, 0⟩] : List Rn))) rfl ((app_prep1 HQ1.out.1 (HQ1.out.2).size ([⟨0, ⟨#[]⟩, (d : Int)⟩] : List Rn))).1 ⟨WA1.heap.size, 0, none⟩ 1 1 (cellsR ([⟨0, ⟨#[]⟩, (d : Int)⟩] : List Rn)) rfl rfl ((app_prep1 HQ1.out.1 (HQ1.out.2).size ([⟨0, ⟨#[]⟩, (d : Int)⟩] : List Rn))).2.1 (oneCellR _) (by decide) (by have := HM.out; (try simp only [List.length_append, List.length_cons, List.length_nil]); unfold maxLen; omega) (by have := HM.out; (try simp only [List.length_append, List.length_cons, List.length_nil]); omega) ((app_prep1 HQ1.out.1 (HQ1.out.2).size ([⟨0, ⟨#[]⟩, (d : Int)⟩] : List Rn))).2.2.1 (WA1.heap.size + 1) ((app_prep1 HQ1.out.1 (HQ1.out.2).size ([⟨0, ⟨#[]⟩, (d : Int)⟩] : List Rn))).2.2.2 ?_; intro ggWA2 cWA2 WA2 hr hgr hat hltA; have HQ2 := hide (app_done HQ1.out.1 (HQ1.out.2).size HQ1.out.2 ([⟨0, ⟨#[]⟩, (d : Int)⟩] : List Rn) hr (only_then (Only.alloc _ _ _) hgr)); clear hr hgr hat hltA; obtain ⟨t0, t1, t2⟩ := cell_X (xk := (n : Int)) (xa := ⟨#[]⟩) (xd := 0) HC.out HQ2.out.2 HLT.out HY.out))
                    go_roundw
                    case rel => exact ⟨j + 1, k + n, 0, ⟨#[]⟩, by go_num, rfl, rfl, by simp, by have := HLT.out; omega, hide ⟨_, HR2.out, by rw [HE.out]; exact own_len (HQ2.out.1) (by simp), HQ2.out.2⟩⟩
                    case measure => simp [intOf]; have := HLT.out; omega
              · have hR2 := hRN.add ha
                rw [← hsn] at hR2
                have hb2 := hR2.bounds
                obtain ⟨xa, hxa⟩ : ∃ xa : ByteArray, xa = ⟨ab.toArray⟩ := ⟨_, rfl⟩
                obtain ⟨xd, hxd⟩ : ∃ xd : Int, xd = 0 := ⟨_, rfl⟩
                have HY2 : Hid (R.getD j rn0 = ⟨0, xa, xd⟩) := hide (by rw [HY.out, hxa, hxd]; rfl)
                replace s0 : wr.cell? ⟨b, off + j * 3, none⟩ = some (.int .i64 0) := s0
                replace s1 : wr.cell? ⟨b, off + j * 3 + 1, none⟩ = some (.string xa) := by rw [hxa]; exact s1
                replace s2 : wr.cell? ⟨b, off + j * 3 + 2, none⟩ = some (.int .i64 xd) := by rw [hxd]; exact s2
                have hkd := rkind_any 0 xd xa
                rw [show (⟨0, xa, xd⟩ : Rn) = rA ab from (by rw [hxa, hxd]; rfl), kind_rA ha] at hkd
                have hzs : xa.size ≤ tOut (expand R) := by
                  have h := htk1.2; rw [hsn, expand_append, tOut_append, expand_one, toks_rA ha, tOut_A] at h; rw [hxa]; simp [ByteArray.size]; omega
                have hss : s.data.toList.length = s.size := Array.length_toList
                have wz : ¬ 9223372036854775807 < s.size + xa.size := by omega
                have wd : IntKind.i64.wrap ((d : Int) + xd) = (d : Int) + xd := by rw [IntKind.wrap_i64]; omega
                have HD : Hid ((d : Int) + xd = ((d : Nat) : Int)) := hide (by rw [hxd]; omega)
                have hR3 : RJ R (j + 1) (O ++ keepL k) 0 (s ++ xa).data.toList d := .inl ⟨hlt, by rw [hxa]; simpa using hR2, by have := len_one O k; omega⟩
                clear hxa hxd hzs hss
                replace hkd : ∀ W : World, Calls Try.prog 100 #[.agg #[.int .i64 0, .string xa, .int .i64 xd]] W fun e W' => e = .returned (.int .i64 2) ∧ Below W.heap.size W W' := hkd
                have HK := hide hkd
                have HR3 := hide hR3
                clear hkd hsn hkn htk htk1 hF hbd hb2 hR2 hR3 hRN
                by_cases zk : k = 0
                · have zk' : ¬ (0 : Int) < (k : Int) := by omega
                  have HE : Hid (O ++ keepL k = O) := hide (by rw [keepL_no zk, List.append_nil])
                  go_wp2_with (first
                    | (go_at_call 100; refine (HK.out _).mono ?_; rintro e V1 ⟨rfl, hb⟩; have HO1 := hide (HO.out.up hb); have HV1 := hide (HBL.out.trans (hb.mono HBL.out.size)); have y0 := (hb.cell (p := ⟨b, off + j * 3, none⟩) (lt_of_cell s0)).trans s0; have y1 := (hb.cell (p := ⟨b, off + j * 3 + 1, none⟩) (lt_of_cell s1)).trans s1; have y2 := (hb.cell (p := ⟨b, off + j * 3 + 2, none⟩) (lt_of_cell s2)).trans s2; clear hb))
                  go_roundw
                  case rel => exact ⟨j + 1, 0, d, (s ++ xa), by go_num, rfl, by rw [HD.out], rfl, by have := HLT.out; omega, hide ⟨_, HR3.out, by rw [HE.out]; exact HO1.out, HV1.out⟩⟩
                  case measure => simp [intOf]; have := HLT.out; omega
                · have zk' : (0 : Int) < (k : Int) := by omega
                  have HE : Hid (O ++ keepL k = O ++ ([⟨(k : Int), ⟨#[]⟩, 0⟩] : List Rn)) := hide (by rw [keepL_yes zk])
                  go_wp2_with (first
                    | (go_at_call 100; refine (HK.out _).mono ?_; rintro e V1 ⟨rfl, hb⟩; have HO1 := hide (HO.out.up hb); have HV1 := hide (HBL.out.trans (hb.mono HBL.out.size)); have y0 := (hb.cell (p := ⟨b, off + j * 3, none⟩) (lt_of_cell s0)).trans s0; have y1 := (hb.cell (p := ⟨b, off + j * 3 + 1, none⟩) (lt_of_cell s1)).trans s1; have y2 := (hb.cell (p := ⟨b, off + j * 3 + 2, none⟩) (lt_of_cell s2)).trans s2; clear hb)
                    | (at_builtin; refine wpList_append_lies _ rfl (.tmp 81) (.tmp 84) 77 rfl V.heap.size 91 i0 (.agg #[.int .i64 0, .string ⟨#[]⟩, .int .i64 0]) 3 32 Try.underlying77 hi hz0 hz1 hz2 rfl (by decide) (.slice ua2 un2 uc2) (O).length (cellsR (O)) rfl ((app_prep1 HO1.out (HV1.out).size ([⟨(k : Int), ⟨#[]⟩, 0⟩] : List Rn))).1 ⟨V1.heap.size, 0, none⟩ 1 1 (cellsR ([⟨(k : Int), ⟨#[]⟩, 0⟩] : List Rn)) rfl rfl ((app_prep1 HO1.out (HV1.out).size ([⟨(k : Int), ⟨#[]⟩, 0⟩] : List Rn))).2.1 (oneCellR _) (by decide) (by have := HM.out; (try simp only [List.length_append, List.length_cons, List.length_nil]); unfold maxLen; omega) (by have := HM.out; (try simp only [List.length_append, List.length_cons, List.length_nil]); omega) ((app_prep1 HO1.out (HV1.out).size ([⟨(k : Int), ⟨#[]⟩, 0⟩] : List Rn))).2.2.1 (V1.heap.size + 1) ((app_prep1 HO1.out (HV1.out).size ([⟨(k : Int), ⟨#[]⟩, 0⟩] : List Rn))).2.2.2 ?_; intro ggWA1 cWA1 WA1 hr hgr hat hltA; have HQ1 := hide (app_done HO1.out (HV1.out).size HV1.out ([⟨(k : Int), ⟨#[]⟩, 0⟩] : List Rn) hr (only_then (Only.alloc _ _ _) hgr)); clear hr hgr hat hltA; obtain ⟨t0, t1, t2⟩ := cell_X HC.out HQ1.out.2 HLT.out HY2.out))
                  go_roundw
                  case rel => exact ⟨j + 1, 0, d, (s ++ xa), by go_num, rfl, by rw [HD.out], rfl, by have := HLT.out; omega, hide ⟨_, HR3.out, by rw [HE.out]; exact HQ1.out.1, HQ1.out.2⟩⟩
                  case measure => simp [intOf]; have := HLT.out; omega
              · have hR2 := hRN.drop hn
                rw [← hsn] at hR2
                have hb2 := hR2.bounds
                obtain ⟨xa, hxa⟩ : ∃ xa : ByteArray, xa = ⟨#[]⟩ := ⟨_, rfl⟩
                obtain ⟨xd, hxd⟩ : ∃ xd : Int, xd = (n : Int) := ⟨_, rfl⟩
                have HY2 : Hid (R.getD j rn0 = ⟨0, xa, xd⟩) := hide (by rw [HY.out, hxa, hxd]; rfl)
                replace s0 : wr.cell? ⟨b, off + j * 3, none⟩ = some (.int .i64 0) := s0
                replace s1 : wr.cell? ⟨b, off + j * 3 + 1, none⟩ = some (.string xa) := by rw [hxa]; exact s1
                replace s2 : wr.cell? ⟨b, off + j * 3 + 2, none⟩ = some (.int .i64 xd) := by rw [hxd]; exact s2
                have hkd := rkind_any 0 xd xa
                rw [show (⟨0, xa, xd⟩ : Rn) = rD n from (by rw [hxa, hxd]; rfl), kind_rD hn] at hkd
                have hzs : xa.size ≤ tOut (expand R) := by
                  rw [hxa]; simp [ByteArray.size]
                have hss : s.data.toList.length = s.size := Array.length_toList
                have wz : ¬ 9223372036854775807 < s.size + xa.size := by omega
                have wd : IntKind.i64.wrap ((d : Int) + xd) = (d : Int) + xd := by rw [IntKind.wrap_i64]; omega
                have HD : Hid ((d : Int) + xd = (((d + n) : Nat) : Int)) := hide (by rw [hxd]; omega)
                have hR3 : RJ R (j + 1) (O ++ keepL k) 0 (s ++ xa).data.toList (d + n) := .inl ⟨hlt, by rw [hxa]; simpa using hR2, by have := len_one O k; omega⟩
                clear hxa hxd hzs hss
                replace hkd : ∀ W : World, Calls Try.prog 100 #[.agg #[.int .i64 0, .string xa, .int .i64 xd]] W fun e W' => e = .returned (.int .i64 3) ∧ Below W.heap.size W W' := hkd
                have HK := hide hkd
                have HR3 := hide hR3
                clear hkd hsn hkn htk htk1 hF hbd hb2 hR2 hR3 hRN
                by_cases zk : k = 0
                · have zk' : ¬ (0 : Int) < (k : Int) := by omega
                  have HE : Hid (O ++ keepL k = O) := hide (by rw [keepL_no zk, List.append_nil])
                  go_wp2_with (first
                    | (go_at_call 100; refine (HK.out _).mono ?_; rintro e V1 ⟨rfl, hb⟩; have HO1 := hide (HO.out.up hb); have HV1 := hide (HBL.out.trans (hb.mono HBL.out.size)); have y0 := (hb.cell (p := ⟨b, off + j * 3, none⟩) (lt_of_cell s0)).trans s0; have y1 := (hb.cell (p := ⟨b, off + j * 3 + 1, none⟩) (lt_of_cell s1)).trans s1; have y2 := (hb.cell (p := ⟨b, off + j * 3 + 2, none⟩) (lt_of_cell s2)).trans s2; clear hb))
                  go_roundw
                  case rel => exact ⟨j + 1, 0, (d + n), (s ++ xa), by go_num, rfl, by rw [HD.out], rfl, by have := HLT.out; omega, hide ⟨_, HR3.out, by rw [HE.out]; exact HO1.out, HV1.out⟩⟩
                  case measure => simp [intOf]; have := HLT.out; omega
                · have zk' : (0 : Int) < (k : Int) := by omega
                  have HE : Hid (O ++ keepL k = O ++ ([⟨(k : Int), ⟨#[]⟩, 0⟩] : List Rn)) := hide (by rw [keepL_yes zk])
                  go_wp2_with (first
                    | (go_at_call 100; refine (HK.out _).mono ?_; rintro e V1 ⟨rfl, hb⟩; have HO1 := hide (HO.out.up hb); have HV1 := hide (HBL.out.trans (hb.mono HBL.out.size)); have y0 := (hb.cell (p := ⟨b, off + j * 3, none⟩) (lt_of_cell s0)).trans s0; have y1 := (hb.cell (p := ⟨b, off + j * 3 + 1, none⟩) (lt_of_cell s1)).trans s1; have y2 := (hb.cell (p := ⟨b, off + j * 3 + 2, none⟩) (lt_of_cell s2)).trans s2; clear hb)
                    | (at_builtin; refine wpList_append_lies _ rfl (.tmp 81) (.tmp 84) 77 rfl V.heap.size 91 i0 (.agg #[.int .i64 0, .string ⟨#[]⟩, .int .i64 0]) 3 32 Try.underlying77 hi hz0 hz1 hz2 rfl (by decide) (.slice ua2 un2 uc2) (O).length (cellsR (O)) rfl ((app_prep1 HO1.out (HV1.out).size ([⟨(k : Int), ⟨#[]⟩, 0⟩] : List Rn))).1 ⟨V1.heap.size, 0, none⟩ 1 1 (cellsR ([⟨(k : Int), ⟨#[]⟩, 0⟩] : List Rn)) rfl rfl ((app_prep1 HO1.out (HV1.out).size ([⟨(k : Int), ⟨#[]⟩, 0⟩] : List Rn))).2.1 (oneCellR _) (by decide) (by have := HM.out; (try simp only [List.length_append, List.length_cons, List.length_nil]); unfold maxLen; omega) (by have := HM.out; (try simp only [List.length_append, List.length_cons, List.length_nil]); omega) ((app_prep1 HO1.out (HV1.out).size ([⟨(k : Int), ⟨#[]⟩, 0⟩] : List Rn))).2.2.1 (V1.heap.size + 1) ((app_prep1 HO1.out (HV1.out).size ([⟨(k : Int), ⟨#[]⟩, 0⟩] : List Rn))).2.2.2 ?_; intro ggWA1 cWA1 WA1 hr hgr hat hltA; have HQ1 := hide (app_done HO1.out (HV1.out).size HV1.out ([⟨(k : Int), ⟨#[]⟩, 0⟩] : List Rn) hr (only_then (Only.alloc _ _ _) hgr)); clear hr hgr hat hltA; obtain ⟨t0, t1, t2⟩ := cell_X HC.out HQ1.out.2 HLT.out HY2.out))
                  go_roundw
                  case rel => exact ⟨j + 1, 0, (d + n), (s ++ xa), by go_num, rfl, by rw [HD.out], rfl, by have := HLT.out; omega, hide ⟨_, HR3.out, by rw [HE.out]; exact HQ1.out.1, HQ1.out.2⟩⟩
                  case measure => simp [intOf]; have := HLT.out; omega
            · obtain rfl : j = R.length := by omega
              rw [List.take_length] at hRN
              have hEnd := hRN.end_
              have hlt' : ¬ (R.length : Int) < (R.length : Int) := by omega
              clear htk hF hbd hBl
              by_cases zk : k = 0
              · have zk' : ¬ (0 : Int) < (k : Int) := by omega
                have HR3 : Hid (RJ R (R.length + 1) O 0 s.data.toList d) := hide (.inr ⟨rfl, by rw [hEnd, keepL_no zk, List.append_nil], by omega⟩)
                clear hEnd hRN
                go_wp2
                go_roundw
                case rel => exact ⟨R.length + 1, 0, d, s, by go_num, rfl, rfl, rfl, by omega, hide ⟨_, HR3.out, HO.out, HBL.out⟩⟩
                case measure => first | (simp [intOf]; done) | (simp [intOf]; omega)
              · have zk' : (0 : Int) < (k : Int) := by omega
                have HR3 : Hid (RJ R (R.length + 1) (O ++ ([⟨(k : Int), ⟨#[]⟩, 0⟩] : List Rn)) 0 s.data.toList d) := hide (.inr ⟨rfl, by rw [hEnd, keepL_yes zk], by simp; omega⟩)
                clear hEnd hRN
                go_wp2_with (at_builtin; refine wpList_append_lies _ rfl (.tmp 81) (.tmp 84) 77 rfl V.heap.size 91 i0 (.agg #[.int .i64 0, .string ⟨#[]⟩, .int .i64 0]) 3 32 Try.underlying77 hi hz0 hz1 hz2 rfl (by decide) (.slice ua2 un2 uc2) (O).length (cellsR (O)) rfl ((app_prep1 HO.out (HBL.out).size ([⟨(k : Int), ⟨#[]⟩, 0⟩] : List Rn))).1 ⟨wr.heap.size, 0, none⟩ 1 1 (cellsR ([⟨(k : Int), ⟨#[]⟩, 0⟩] : List Rn)) rfl rfl ((app_prep1 HO.out (HBL.out).size ([⟨(k : Int), ⟨#[]⟩, 0⟩] : List Rn))).2.1 (oneCellR _) (by decide) (by have := HM.out; (try simp only [List.length_append, List.length_cons, List.length_nil]); unfold maxLen; omega) (by have := HM.out; (try simp only [List.length_append, List.length_cons, List.length_nil]); omega) ((app_prep1 HO.out (HBL.out).size ([⟨(k : Int), ⟨#[]⟩, 0⟩] : List Rn))).2.2.1 (wr.heap.size + 1) ((app_prep1 HO.out (HBL.out).size ([⟨(k : Int), ⟨#[]⟩, 0⟩] : List Rn))).2.2.2 ?_; intro ggWA1 cWA1 WA1 hr hgr hat hltA; have HQ1 := hide (app_done HO.out (HBL.out).size HBL.out ([⟨(k : Int), ⟨#[]⟩, 0⟩] : List Rn) hr (only_then (Only.alloc _ _ _) hgr)); clear hr hgr hat hltA)
                go_roundw
                case rel => exact ⟨R.length + 1, 0, d, s, by go_num, rfl, rfl, rfl, by omega, hide ⟨_, HR3.out, HQ1.out.1, HQ1.out.2⟩⟩
                case measure => first | (simp [intOf]; done) | (simp [intOf]; omega)
          · have hle' : ¬ ((R.length + 1 : Nat) : Int) ≤ (R.length : Int) := by omega
            have HM : Hid (O.length ≤ 900000) := hide (by omega)
            have HG : Hid (isG (normT (expand R)) = decide ((normT (expand R)).length ≤ 65536)) := hide (isG_normT HF.out.1 HF.out.2)
            have HN : Hid (normR rs = if (normT (expand R)).length ≤ 65536 then normT (expand R) else []) := hide (by
              rw [normR, ← HEX.out]
              by_cases z : (normT (expand R)).length ≤ 65536
              · rw [if_pos z, if_pos ⟨HF.out.1, HF.out.2, z⟩]
              · rw [if_neg z, if_neg (fun h => z h.2.2)])
            have HEnd := hide hEnd
            clear hEnd hBl hOl
            by_cases za : s.toList = []
            · have za' : s.toList.isEmpty = true := by rw [za]; rfl
              by_cases zd : d = 0
              · have zd' : ¬ (0 : Int) < (d : Int) := by omega
                have HE : Hid (normT (expand R) = O) := hide (by rw [HEnd.out]; rw [addL_no za, dropL_no zd]; simp)
                obtain ⟨_, _, e⟩ := HO.out.form
                cases e
                have HPL : Hid ((normT (expand R)).length ≤ 1000000 ∨ True) := hide (.inr trivial)
                have hgd := rgood_any ua2 uc2 (O) wr (HO.out).came (by have := HM.out; simp; omega)
                rw [← HE.out, HG.out] at hgd
                have hCF : CameR wr.heap.size wr ua2 (normT (expand R)) := by rw [HE.out]; exact (HO.out).came
                have HCF := hide hCF
                have HBF := hide (HV.out.trans ((HBL.out).mono HV.out.size))
                clear hCF
                have HLN : Hid (O.length = (normT (expand R)).length) := hide (by rw [HE.out])
                by_cases z : (normT (expand R)).length ≤ 65536
                · rw [decide_eq_true z] at hgd
                  have HNN : Hid (normR rs = normT (expand R)) := hide (by rw [HN.out, if_pos z])
                  clear z
                  have HGD := hide hgd
                  go_wp2_with (go_at_call 52; refine Calls.mono (by have h := HGD.out; rw [← HLN.out] at h; exact h) ?_; rintro e X ⟨rfl, hb⟩; have HX := hide hb; clear hb)
                  go_ret
                  refine ⟨ua2, uc2, by rw [HNN.out]; exact congrArg (fun x => Ending.returned (Value.slice _ x _)) HLN.out, by rw [HNN.out]; exact came_up HCF.out HX.out, HBF.out.trans (HX.out.mono HBF.out.size)⟩
                · rw [decide_eq_false z] at hgd
                  have HNN : Hid (normR rs = []) := hide (by rw [HN.out, if_neg z])
                  clear z
                  have HGD := hide hgd
                  go_wp2_with (go_at_call 52; refine Calls.mono (by have h := HGD.out; rw [← HLN.out] at h; exact h) ?_; rintro e X ⟨rfl, hb⟩; have HX := hide hb; clear hb)
                  go_ret
                  rw [HNN.out]
                  exact ⟨none, 0, rfl, .inl rfl, HBF.out.trans (HX.out.mono HBF.out.size)⟩
              · have zd' : (0 : Int) < (d : Int) := by omega
                have HE : Hid (normT (expand R) = O ++ ([⟨0, ⟨#[]⟩, (d : Int)⟩] : List Rn)) := hide (by rw [HEnd.out]; rw [addL_no za, dropL_yes zd]; simp)
                go_wp2_with (first
                  | (at_builtin; refine wpList_append_lies _ rfl (.tmp 113) (.tmp 116) 77 rfl V.heap.size 91 i0 (.agg #[.int .i64 0, .string ⟨#[]⟩, .int .i64 0]) 3 32 Try.underlying77 hi hz0 hz1 hz2 rfl (by decide) (.slice ua2 un2 uc2) (O).length (cellsR (O)) rfl ((app_prep1 HO.out (HBL.out).size ([⟨0, ⟨#[]⟩, (d : Int)⟩] : List Rn))).1 ⟨wr.heap.size, 0, none⟩ 1 1 (cellsR ([⟨0, ⟨#[]⟩, (d : Int)⟩] : List Rn)) rfl rfl ((app_prep1 HO.out (HBL.out).size ([⟨0, ⟨#[]⟩, (d : Int)⟩] : List Rn))).2.1 (oneCellR _) (by decide) (by have := HM.out; (try simp only [List.length_append, List.length_cons, List.length_nil]); unfold maxLen; omega) (by have := HM.out; (try simp only [List.length_append, List.length_cons, List.length_nil]); omega) ((app_prep1 HO.out (HBL.out).size ([⟨0, ⟨#[]⟩, (d : Int)⟩] : List Rn))).2.2.1 (wr.heap.size + 1) ((app_prep1 HO.out (HBL.out).size ([⟨0, ⟨#[]⟩, (d : Int)⟩] : List Rn))).2.2.2 ?_; intro ggWA2 cWA2 WA2 hr hgr hat hltA; have HQ2 := hide (app_done HO.out (HBL.out).size HBL.out ([⟨0, ⟨#[]⟩, (d : Int)⟩] : List Rn) hr (only_then (Only.alloc _ _ _) hgr)); clear hr hgr hat hltA))
                have HPL : Hid ((normT (expand R)).length ≤ 1000000 ∨ True) := hide (.inr trivial)
                have hgd := rgood_any (some ⟨ggWA2, 0, none⟩) cWA2 (O ++ ([⟨0, ⟨#[]⟩, (d : Int)⟩] : List Rn)) WA2 (HQ2.out.1).came (by have := HM.out; simp; omega)
                rw [← HE.out, HG.out] at hgd
                have hCF : CameR WA2.heap.size WA2 (some ⟨ggWA2, 0, none⟩) (normT (expand R)) := by rw [HE.out]; exact (HQ2.out.1).came
                have HCF := hide hCF
                have HBF := hide (HV.out.trans ((HQ2.out.2).mono HV.out.size))
                clear hCF
                have HLN : Hid (O.length + 1 = (normT (expand R)).length) := hide (by rw [HE.out]; simp)
                by_cases z : (normT (expand R)).length ≤ 65536
                · rw [decide_eq_true z] at hgd
                  have HNN : Hid (normR rs = normT (expand R)) := hide (by rw [HN.out, if_pos z])
                  clear z
                  have HGD := hide hgd
                  go_wp2_with (go_at_call 52; refine Calls.mono (by have h := HGD.out; rw [← HLN.out] at h; exact h) ?_; rintro e X ⟨rfl, hb⟩; have HX := hide hb; clear hb)
                  go_ret
                  refine ⟨(some ⟨ggWA2, 0, none⟩), cWA2, by rw [HNN.out]; exact congrArg (fun x => Ending.returned (Value.slice _ x _)) HLN.out, by rw [HNN.out]; exact came_up HCF.out HX.out, HBF.out.trans (HX.out.mono HBF.out.size)⟩
                · rw [decide_eq_false z] at hgd
                  have HNN : Hid (normR rs = []) := hide (by rw [HN.out, if_neg z])
                  clear z
                  have HGD := hide hgd
                  go_wp2_with (go_at_call 52; refine Calls.mono (by have h := HGD.out; rw [← HLN.out] at h; exact h) ?_; rintro e X ⟨rfl, hb⟩; have HX := hide hb; clear hb)
                  go_ret
                  rw [HNN.out]
                  exact ⟨none, 0, rfl, .inl rfl, HBF.out.trans (HX.out.mono HBF.out.size)⟩
            · have za' : s.toList.isEmpty = false := by simpa using za
              by_cases zd : d = 0
              · have zd' : ¬ (0 : Int) < (d : Int) := by omega
                have HE : Hid (normT (expand R) = O ++ ([⟨0, s, 0⟩] : List Rn)) := hide (by rw [HEnd.out]; rw [addL_yes za, dropL_no zd]; simp)
                go_wp2_with (first
                  | (at_builtin; refine wpList_append_lies _ rfl (.tmp 106) (.tmp 109) 77 rfl V.heap.size 91 i0 (.agg #[.int .i64 0, .string ⟨#[]⟩, .int .i64 0]) 3 32 Try.underlying77 hi hz0 hz1 hz2 rfl (by decide) (.slice ua2 un2 uc2) (O).length (cellsR (O)) rfl ((app_prep1 HO.out (HBL.out).size ([⟨0, s, 0⟩] : List Rn))).1 ⟨wr.heap.size, 0, none⟩ 1 1 (cellsR ([⟨0, s, 0⟩] : List Rn)) rfl rfl ((app_prep1 HO.out (HBL.out).size ([⟨0, s, 0⟩] : List Rn))).2.1 (oneCellR _) (by decide) (by have := HM.out; (try simp only [List.length_append, List.length_cons, List.length_nil]); unfold maxLen; omega) (by have := HM.out; (try simp only [List.length_append, List.length_cons, List.length_nil]); omega) ((app_prep1 HO.out (HBL.out).size ([⟨0, s, 0⟩] : List Rn))).2.2.1 (wr.heap.size + 1) ((app_prep1 HO.out (HBL.out).size ([⟨0, s, 0⟩] : List Rn))).2.2.2 ?_; intro ggWA1 cWA1 WA1 hr hgr hat hltA; have HQ1 := hide (app_done HO.out (HBL.out).size HBL.out ([⟨0, s, 0⟩] : List Rn) hr (only_then (Only.alloc _ _ _) hgr)); clear hr hgr hat hltA))
                have HPL : Hid ((normT (expand R)).length ≤ 1000000 ∨ True) := hide (.inr trivial)
                have hgd := rgood_any (some ⟨ggWA1, 0, none⟩) cWA1 (O ++ ([⟨0, s, 0⟩] : List Rn)) WA1 (HQ1.out.1).came (by have := HM.out; simp; omega)
                rw [← HE.out, HG.out] at hgd
                have hCF : CameR WA1.heap.size WA1 (some ⟨ggWA1, 0, none⟩) (normT (expand R)) := by rw [HE.out]; exact (HQ1.out.1).came
                have HCF := hide hCF
                have HBF := hide (HV.out.trans ((HQ1.out.2).mono HV.out.size))
                clear hCF
                have HLN : Hid (O.length + 1 = (normT (expand R)).length) := hide (by rw [HE.out]; simp)
                by_cases z : (normT (expand R)).length ≤ 65536
                · rw [decide_eq_true z] at hgd
                  have HNN : Hid (normR rs = normT (expand R)) := hide (by rw [HN.out, if_pos z])
                  clear z
                  have HGD := hide hgd
                  go_wp2_with (go_at_call 52; refine Calls.mono (by have h := HGD.out; rw [← HLN.out] at h; exact h) ?_; rintro e X ⟨rfl, hb⟩; have HX := hide hb; clear hb)
                  go_ret
                  refine ⟨(some ⟨ggWA1, 0, none⟩), cWA1, by rw [HNN.out]; exact congrArg (fun x => Ending.returned (Value.slice _ x _)) HLN.out, by rw [HNN.out]; exact came_up HCF.out HX.out, HBF.out.trans (HX.out.mono HBF.out.size)⟩
                · rw [decide_eq_false z] at hgd
                  have HNN : Hid (normR rs = []) := hide (by rw [HN.out, if_neg z])
                  clear z
                  have HGD := hide hgd
                  go_wp2_with (go_at_call 52; refine Calls.mono (by have h := HGD.out; rw [← HLN.out] at h; exact h) ?_; rintro e X ⟨rfl, hb⟩; have HX := hide hb; clear hb)
                  go_ret
                  rw [HNN.out]
                  exact ⟨none, 0, rfl, .inl rfl, HBF.out.trans (HX.out.mono HBF.out.size)⟩
              · have zd' : (0 : Int) < (d : Int) := by omega
                have HE : Hid (normT (expand R) = O ++ ([⟨0, s, 0⟩] : List Rn) ++ ([⟨0, ⟨#[]⟩, (d : Int)⟩] : List Rn)) := hide (by rw [HEnd.out]; rw [addL_yes za, dropL_yes zd]; simp)
                go_wp2_with (first
                  | (at_builtin; refine wpList_append_lies _ rfl (.tmp 106) (.tmp 109) 77 rfl V.heap.size 91 i0 (.agg #[.int .i64 0, .string ⟨#[]⟩, .int .i64 0]) 3 32 Try.underlying77 hi hz0 hz1 hz2 rfl (by decide) (.slice ua2 un2 uc2) (O).length (cellsR (O)) rfl ((app_prep1 HO.out (HBL.out).size ([⟨0, s, 0⟩] : List Rn))).1 ⟨wr.heap.size, 0, none⟩ 1 1 (cellsR ([⟨0, s, 0⟩] : List Rn)) rfl rfl ((app_prep1 HO.out (HBL.out).size ([⟨0, s, 0⟩] : List Rn))).2.1 (oneCellR _) (by decide) (by have := HM.out; (try simp only [List.length_append, List.length_cons, List.length_nil]); unfold maxLen; omega) (by have := HM.out; (try simp only [List.length_append, List.length_cons, List.length_nil]); omega) ((app_prep1 HO.out (HBL.out).size ([⟨0, s, 0⟩] : List Rn))).2.2.1 (wr.heap.size + 1) ((app_prep1 HO.out (HBL.out).size ([⟨0, s, 0⟩] : List Rn))).2.2.2 ?_; intro ggWA1 cWA1 WA1 hr hgr hat hltA; have HQ1 := hide (app_done HO.out (HBL.out).size HBL.out ([⟨0, s, 0⟩] : List Rn) hr (only_then (Only.alloc _ _ _) hgr)); clear hr hgr hat hltA)
                  | (at_builtin; refine wpList_append_lies _ rfl (.tmp 113) (.tmp 116) 77 rfl V.heap.size 91 i0 (.agg #[.int .i64 0, .string ⟨#[]⟩, .int .i64 0]) 3 32 Try.underlying77 hi hz0 hz1 hz2 rfl (by decide) (.slice (some ⟨ggWA1, 0, none⟩) ((O).length + 1) cWA1) (O ++ ([⟨0, s, 0⟩] : List Rn)).length (cellsR (O ++ ([⟨0, s, 0⟩] : List Rn))) rfl ((app_prep1 HQ1.out.1 (HQ1.out.2).size ([⟨0, ⟨#[]⟩, (d : Int)⟩] : List Rn))).1 ⟨WA1.heap.size, 0, none⟩ 1 1 (cellsR ([⟨0, ⟨#[]⟩, (d : Int)⟩] : List Rn)) rfl rfl ((app_prep1 HQ1.out.1 (HQ1.out.2).size ([⟨0, ⟨#[]⟩, (d : Int)⟩] : List Rn))).2.1 (oneCellR _) (by decide) (by have := HM.out; (try simp only [List.length_append, List.length_cons, List.length_nil]); unfold maxLen; omega) (by have := HM.out; (try simp only [List.length_append, List.length_cons, List.length_nil]); omega) ((app_prep1 HQ1.out.1 (HQ1.out.2).size ([⟨0, ⟨#[]⟩, (d : Int)⟩] : List Rn))).2.2.1 (WA1.heap.size + 1) ((app_prep1 HQ1.out.1 (HQ1.out.2).size ([⟨0, ⟨#[]⟩, (d : Int)⟩] : List Rn))).2.2.2 ?_; intro ggWA2 cWA2 WA2 hr hgr hat hltA; have HQ2 := hide (app_done HQ1.out.1 (HQ1.out.2).size HQ1.out.2 ([⟨0, ⟨#[]⟩, (d : Int)⟩] : List Rn) hr (only_then (Only.alloc _ _ _) hgr)); clear hr hgr hat hltA))
                have HPL : Hid ((normT (expand R)).length ≤ 1000000 ∨ True) := hide (.inr trivial)
                have hgd := rgood_any (some ⟨ggWA2, 0, none⟩) cWA2 (O ++ ([⟨0, s, 0⟩] : List Rn) ++ ([⟨0, ⟨#[]⟩, (d : Int)⟩] : List Rn)) WA2 (HQ2.out.1).came (by have := HM.out; simp; omega)
                rw [← HE.out, HG.out] at hgd
                have hCF : CameR WA2.heap.size WA2 (some ⟨ggWA2, 0, none⟩) (normT (expand R)) := by rw [HE.out]; exact (HQ2.out.1).came
                have HCF := hide hCF
                have HBF := hide (HV.out.trans ((HQ2.out.2).mono HV.out.size))
                clear hCF
                have HLN : Hid (O.length + 1 + 1 = (normT (expand R)).length) := hide (by rw [HE.out]; simp)
                by_cases z : (normT (expand R)).length ≤ 65536
                · rw [decide_eq_true z] at hgd
                  have HNN : Hid (normR rs = normT (expand R)) := hide (by rw [HN.out, if_pos z])
                  clear z
                  have HGD := hide hgd
                  go_wp2_with (go_at_call 52; refine Calls.mono (by have h := HGD.out; rw [← HLN.out] at h; exact h) ?_; rintro e X ⟨rfl, hb⟩; have HX := hide hb; clear hb)
                  go_ret
                  refine ⟨(some ⟨ggWA2, 0, none⟩), cWA2, by rw [HNN.out]; exact congrArg (fun x => Ending.returned (Value.slice _ x _)) HLN.out, by rw [HNN.out]; exact came_up HCF.out HX.out, HBF.out.trans (HX.out.mono HBF.out.size)⟩
                · rw [decide_eq_false z] at hgd
                  have HNN : Hid (normR rs = []) := hide (by rw [HN.out, if_neg z])
                  clear z
                  have HGD := hide hgd
                  go_wp2_with (go_at_call 52; refine Calls.mono (by have h := HGD.out; rw [← HLN.out] at h; exact h) ?_; rintro e X ⟨rfl, hb⟩; have HX := hide hb; clear hb)
                  go_ret
                  rw [HNN.out]
                  exact ⟨none, 0, rfl, .inl rfl, HBF.out.trans (HX.out.mono HBF.out.size)⟩
      · rw [if_neg hf] at hsm
        have HN : Hid (normR rs = []) := hide (by rw [normR, if_neg (fun h => hf ⟨h.1, h.2.1⟩)])
        replace hsm : Calls Try.prog 101 #[.slice ua (rightR rs).length uc] wr fun e W' => e = .returned (.tuple #[.int .i64 0, .int .i64 0, .bool false]) ∧ Below wr.heap.size wr W' := hsm
        clear hf
        go_wp2_with (go_at_call 101; refine hsm.mono ?_; rintro e V ⟨rfl, hb⟩; have HV := hide (HI.out.2.trans (hb.mono HI.out.2.size)); clear hb)
        go_ret
        rw [HN.out]
        exact ⟨none, 0, rfl, .inl rfl, HV.out⟩

end Go.Proofs.Ytpmijaplkbmbiaa.E

/- The document's Insert and Delete, walked; what they make. -/
namespace Go.Proofs.Ytpmijaplkbmbiaa.E
open Go.Proofs.Ytpmijaplkbmbiaa Go.RowKit Go.By Go.Shelf
set_option linter.unusedVariables false
set_option linter.unusedSimpArgs false

theorem rnorm_new (w : World) (L : List Rn) (cap : Nat) (hl : L.length ≤ 400000) :
    Calls Try.prog 61 #[.slice (some ⟨w.heap.size, 0, none⟩) L.length cap] (w.alloc (.cells (cellsR L).toArray 91)) fun e W' => Gives w.heap.size w (normR L) e W' :=
  (rnorm_any _ cap L _ (came_new w L) hl).mono fun e W' ⟨a, c, he, hc, hb⟩ => ⟨a, c, he, hc, ((Below.refl _ w).alloc (Nat.le_refl _) _).trans (hb.mono (by simp))⟩

set_option maxRecDepth 20000 in
set_option maxHeartbeats 4000000 in
theorem rinsert_any (n at_ : Int) (s : ByteArray) (w : World) : Calls Try.prog 64 #[.int .i64 n, .int .i64 at_, .string s] w fun e W' => Gives2 w.heap.size w (insR n at_ s) (insE n at_ s) e W' := by
  go_enter Try.func64, Try.ntmps64
  by_cases h1 : n < 0
  · have HQ : Hid (insE n at_ s = 2) := hide (by rw [insE, if_pos (.inl h1)])
    go_wp2
    go_ret2
    exact gives2_nil (by rw [insR, HQ.out]; rfl) HQ.out.symm
  by_cases h2 : 16777216 < n
  · have HQ : Hid (insE n at_ s = 2) := hide (by rw [insE, if_pos (.inr h2)])
    go_wp2
    go_ret2
    exact gives2_nil (by rw [insR, HQ.out]; rfl) HQ.out.symm
  have w1 : IntKind.i64.wrap (16777216 - n) = 16777216 - n := by rw [IntKind.wrap_i64]; omega
  by_cases h3 : at_ < 0
  · have HQ : Hid (insE n at_ s = 30) := hide (by rw [insE, if_neg (by omega), if_pos (.inl h3)])
    go_wp2
    go_ret2
    exact gives2_nil (by rw [insR, HQ.out]; rfl) HQ.out.symm
  by_cases h4 : n < at_
  · have HQ : Hid (insE n at_ s = 30) := hide (by rw [insE, if_neg (by omega), if_pos (.inr h4)])
    go_wp2
    go_ret2
    exact gives2_nil (by rw [insR, HQ.out]; rfl) HQ.out.symm
  by_cases h5 : 16777216 - n < (s.size : Int)
  · have HQ : Hid (insE n at_ s = 31) := hide (by rw [insE, if_neg (by omega), if_neg (by omega), if_pos h5])
    go_wp2
    go_ret2
    exact gives2_nil (by rw [insR, HQ.out]; rfl) HQ.out.symm
  have w2 : IntKind.i64.wrap (n - at_) = n - at_ := by rw [IntKind.wrap_i64]; omega
  have HE : Hid (insE n at_ s = 0) := hide (by rw [insE, if_neg (by omega), if_neg (by omega), if_neg h5])
  have HR : Hid (insR n at_ s = normR (insL n at_ s)) := hide (by rw [insR, if_pos HE.out])
  have hN := rnorm_new w (insL n at_ s) 3 (by simp [insL])
  go_wp2_with (go_at_call 61; refine hN.mono ?_; rintro e W' ⟨a, c, rfl, hc, hb⟩; have HC := hide hc; have HB := hide hb; clear hc hb)
  go_ret2
  rw [HE.out, HR.out]
  exact ⟨a, c, rfl, HC.out, HB.out⟩

set_option maxRecDepth 20000 in
set_option maxHeartbeats 4000000 in
theorem rdelete_any (n at_ many : Int) (w : World) : Calls Try.prog 66 #[.int .i64 n, .int .i64 at_, .int .i64 many] w fun e W' => Gives2 w.heap.size w (delR n at_ many) (delE n at_ many) e W' := by
  go_enter Try.func66, Try.ntmps66
  by_cases h1 : n < 0
  · have HQ : Hid (delE n at_ many = 2) := hide (by rw [delE, if_pos (.inl h1)])
    go_wp2
    go_ret2
    exact gives2_nil (by rw [delR, HQ.out]; rfl) HQ.out.symm
  by_cases h2 : 16777216 < n
  · have HQ : Hid (delE n at_ many = 2) := hide (by rw [delE, if_pos (.inr h2)])
    go_wp2
    go_ret2
    exact gives2_nil (by rw [delR, HQ.out]; rfl) HQ.out.symm
  by_cases h3 : at_ < 0
  · have HQ : Hid (delE n at_ many = 30) := hide (by rw [delE, if_neg (by omega), if_pos (.inl h3)])
    go_wp2
    go_ret2
    exact gives2_nil (by rw [delR, HQ.out]; rfl) HQ.out.symm
  by_cases h4 : many < 0
  · have HQ : Hid (delE n at_ many = 30) := hide (by rw [delE, if_neg (by omega), if_pos (.inr (.inl h4))])
    go_wp2
    go_ret2
    exact gives2_nil (by rw [delR, HQ.out]; rfl) HQ.out.symm
  by_cases h6 : n < at_
  · have HQ : Hid (delE n at_ many = 30) := hide (by rw [delE, if_neg (by omega), if_pos (.inr (.inr (by omega)))])
    go_wp2
    go_ret2
    exact gives2_nil (by rw [delR, HQ.out]; rfl) HQ.out.symm
  have w1 : IntKind.i64.wrap (n - at_) = n - at_ := by rw [IntKind.wrap_i64]; omega
  by_cases h5 : n - at_ < many
  · have HQ : Hid (delE n at_ many = 30) := hide (by rw [delE, if_neg (by omega), if_pos (.inr (.inr h5))])
    go_wp2
    go_ret2
    exact gives2_nil (by rw [delR, HQ.out]; rfl) HQ.out.symm
  have w2 : IntKind.i64.wrap (n - at_ - many) = n - at_ - many := by rw [IntKind.wrap_i64]; omega
  have HE : Hid (delE n at_ many = 0) := hide (by rw [delE, if_neg (by omega), if_neg (by omega)])
  have HR : Hid (delR n at_ many = normR (delL n at_ many)) := hide (by rw [delR, if_pos HE.out])
  have hN := rnorm_new w (delL n at_ many) 3 (by simp [delL])
  go_wp2_with (go_at_call 61; refine hN.mono ?_; rintro e W' ⟨a, c, rfl, hc, hb⟩; have HC := hide hc; have HB := hide hb; clear hc hb)
  go_ret2
  rw [HE.out, HR.out]
  exact ⟨a, c, rfl, HC.out, HB.out⟩

theorem flush_le (k : Nat) (a : List UInt8) (d : Nat) : (flush k a d).length ≤ 3 := by
  rw [len_flush]; split <;> split <;> split <;> omega

theorem op_run (s : Ns) (r : Rn) : ((toks r).foldl tstep s).op.length ≤ s.op.length + 3 := by
  by_cases hk : kind r = 0
  · rw [nstep_zero hk]; omega
  rcases kind_cases hk with ⟨n, hn, rfl⟩ | ⟨a, ha, rfl⟩ | ⟨n, hn, rfl⟩
  · by_cases hs : s.a = [] ∧ s.d = 0
    · rw [nstep_keep0 hn hs]; show s.op.length ≤ _; omega
    · rw [nstep_keep1 hn hs]
      show (s.op ++ flush s.k s.a s.d).length ≤ _
      have := flush_le s.k s.a s.d
      rw [List.length_append]; omega
  · rw [nstep_add ha]; show s.op.length ≤ _; omega
  · rw [nstep_drop hn]; show s.op.length ≤ _; omega

theorem op_runs (rs : List Rn) : ∀ s, ((expand rs).foldl tstep s).op.length ≤ s.op.length + 3 * rs.length := by
  induction rs with
  | nil => intro s; exact Nat.le_add_right _ _
  | cons r rs ih =>
    intro s
    have e : expand (r :: rs) = toks r ++ expand rs := by simp [expand]
    have h1 := op_run s r
    have h2 := ih ((toks r).foldl tstep s)
    rw [e, List.foldl_append, List.length_cons]; omega

theorem len_normT (rs : List Rn) : (normT (expand rs)).length ≤ 3 * rs.length + 3 := by
  have h := op_runs rs ns0
  have h2 := flush_le (nscan (expand rs)).k (nscan (expand rs)).a (nscan (expand rs)).d
  rw [normT, nend, List.length_append]
  have h3 : (nscan (expand rs)).op.length ≤ 0 + 3 * rs.length := h
  omega

/-- Few runs, not too many bytes: what Norm makes of them. -/
theorem norm_few {rs : List Rn} (h1 : tIn (expand rs) ≤ 16777216) (h2 : tOut (expand rs) ≤ 16777216) (hl : rs.length ≤ 3) :
    (meas (normR rs)).isSome = true ∧ mIn (meas (normR rs)) = (tIn (expand rs) : Int) ∧ mOut (meas (normR rs)) = (tOut (expand rs) : Int) ∧ (normR rs).length ≤ 12 := by
  have hlen := len_normT rs
  have e : normR rs = normT (expand rs) := by rw [normR, if_pos ⟨h1, h2, by omega⟩]
  obtain ⟨j, hj⟩ := meas_normT h1 h2 (by omega)
  rw [e, hj]
  exact ⟨rfl, rfl, rfl, by omega⟩

theorem ins_sums {n at_ : Int} {s : ByteArray} (h0 : 0 ≤ at_) (h1 : at_ ≤ n) : ((tIn (expand (insL n at_ s)) : Nat) : Int) = n ∧ ((tOut (expand (insL n at_ s)) : Nat) : Int) = n + (s.size : Int) := by
  have e : expand (insL n at_ s) = List.replicate at_.toNat .K ++ (s.data.toList.map .A ++ List.replicate (n - at_).toNat .K) := by
    simp [expand, insL, toks_keep, toks_add]
  have hs : s.data.toList.length = s.size := by rw [Array.length_toList]; rfl
  rw [e, tIn_append, tIn_append, tOut_append, tOut_append, tIn_K, tIn_K, tOut_K, tOut_K, tIn_A, tOut_A, hs]
  constructor <;> omega

theorem ins_facts {n at_ : Int} {s : ByteArray} (h : insE n at_ s = 0) :
    (meas (insR n at_ s)).isSome = true ∧ mIn (meas (insR n at_ s)) = n ∧ mOut (meas (insR n at_ s)) = n + (s.size : Int) ∧ (insR n at_ s).length ≤ 12 ∧ (0 ≤ n ∧ n ≤ 16777216) ∧ ((s.size : Int) ≤ 16777216) := by
  have hr : insR n at_ s = normR (insL n at_ s) := by rw [insR, if_pos h]
  unfold insE at h
  split at h
  · omega
  split at h
  · omega
  split at h
  · omega
  rename_i a1 a2 a3
  obtain ⟨s1, s2⟩ := ins_sums (n := n) (at_ := at_) (s := s) (by omega) (by omega)
  obtain ⟨f1, f2, f3, f4⟩ := norm_few (rs := insL n at_ s) (by omega) (by omega) (by simp [insL])
  rw [hr]
  exact ⟨f1, by rw [f2, s1], by rw [f3, s2], f4, ⟨by omega, by omega⟩, by omega⟩

theorem del_sums {n at_ many : Int} (h0 : 0 ≤ at_) (h1 : 0 ≤ many) (h2 : many ≤ n - at_) : ((tIn (expand (delL n at_ many)) : Nat) : Int) = n ∧ ((tOut (expand (delL n at_ many)) : Nat) : Int) = n - many := by
  have e : expand (delL n at_ many) = List.replicate at_.toNat .K ++ (List.replicate many.toNat .D ++ List.replicate (n - at_ - many).toNat .K) := by
    simp [expand, delL, toks_keep, toks_drop]
  rw [e, tIn_append, tIn_append, tOut_append, tOut_append, tIn_K, tIn_K, tOut_K, tOut_K, tIn_D, tOut_D]
  constructor <;> omega

theorem del_facts {n at_ many : Int} (h : delE n at_ many = 0) :
    (meas (delR n at_ many)).isSome = true ∧ mIn (meas (delR n at_ many)) = n ∧ mOut (meas (delR n at_ many)) = n - many ∧ (delR n at_ many).length ≤ 12 ∧ (0 ≤ n ∧ n ≤ 16777216) ∧ 0 ≤ many ∧ many ≤ n := by
  have hr : delR n at_ many = normR (delL n at_ many) := by rw [delR, if_pos h]
  unfold delE at h
  split at h
  · omega
  split at h
  · omega
  rename_i a1 a2
  obtain ⟨s1, s2⟩ := del_sums (n := n) (at_ := at_) (many := many) (by omega) (by omega) (by omega)
  obtain ⟨f1, f2, f3, f4⟩ := norm_few (rs := delL n at_ many) (by omega) (by omega) (by simp [delL])
  rw [hr]
  exact ⟨f1, by rw [f2, s1], by rw [f3, s2], f4, ⟨by omega, by omega⟩, by omega, by omega⟩

end Go.Proofs.Ytpmijaplkbmbiaa.E

/- The edit between two texts. -/
namespace Go.Proofs.Ytpmijaplkbmbiaa.E
open Go.Proofs.Ytpmijaplkbmbiaa Go.RowKit Go.By Go.Shelf
set_option linter.unusedVariables false
set_option linter.unusedSimpArgs false

def hdN (a b : ByteArray) : Nat := headN a.data.toList b.data.toList
def tlN (a b : ByteArray) : Nat := tailN a.data.toList b.data.toList
def betS (a b : ByteArray) : List Rn := [⟨(hdN a b : Int), ⟨#[]⟩, 0⟩, ⟨0, b.extract (hdN a b) (b.size - tlN a b), 0⟩, ⟨0, ⟨#[]⟩, ((a.size - tlN a b - hdN a b : Nat) : Int)⟩, ⟨(tlN a b : Int), ⟨#[]⟩, 0⟩]
theorem sz_list (a : ByteArray) : a.data.toList.length = a.size := by rw [Array.length_toList]; rfl
theorem betS_eq (a b : ByteArray) : betS a b = betL a.data.toList b.data.toList := by
  have e : b.extract (hdN a b) (b.size - tlN a b) = ⟨((b.data.toList.drop (hdN a b)).take (b.data.toList.length - tlN a b - hdN a b)).toArray⟩ := by
    apply ba_eq
    rw [ext_list, sz_list]
  rw [betS, e, betL, sz_list]; rfl
theorem bet_le (a b : ByteArray) : hdN a b + tlN a b ≤ a.size ∧ hdN a b + tlN a b ≤ b.size := by
  have := bet_bounds a.data.toList b.data.toList
  rw [sz_list, sz_list] at this; exact this
/-- What Between tells. -/
def betR (a b : ByteArray) : List Rn := if max a.size b.size ≤ 16777216 then normR (betS a b) else []

theorem head_is (a b : ByteArray) : hdN a b = cnt (min a.size b.size) fun i => a.data.toList.getD i 0 == b.data.toList.getD i 0 := by rw [hdN, headN, sz_list, sz_list]
theorem tail_is (a b : ByteArray) : tlN a b = cnt (min a.size b.size - hdN a b) fun i => a.data.toList.getD (a.data.toList.length - 1 - i) 0 == b.data.toList.getD (b.data.toList.length - 1 - i) 0 := by rw [tlN, tailN, sz_list, sz_list]; rfl

theorem below_drew {B : Nat} {w0 w : World} (h : Below B w0 w) : Below B w0 w.drew := ⟨h.os, h.tape, h.output, h.size, h.block⟩
theorem norm_newd (w : World) (L : List Rn) (cap : Nat) (hl : L.length ≤ 1000000) :
    Calls Try.prog 60 #[.slice (some ⟨w.heap.size, 0, none⟩) L.length cap] (w.alloc (.cells (cellsR L).toArray 91)).drew fun e W' => Gives w.heap.size w (normR L) e W' :=
  (norm_any _ cap L _ (came_up (came_new w L) (below_drew (Below.refl _ _))) hl).mono fun e W' ⟨a, c, he, hc, hb⟩ => ⟨a, c, he, hc, (below_drew ((Below.refl _ w).alloc (Nat.le_refl _) _)).trans (hb.mono (show w.heap.size ≤ (w.alloc _).heap.size by simp))⟩

set_option maxRecDepth 100000 in
set_option maxHeartbeats 4000000 in
theorem between_any (a b : ByteArray) (w : World) : Calls Try.prog 76 #[.string a, .string b] w fun e W' => Gives w.heap.size w (betR a b) e W' := by
  have hba : Below w.heap.size w ((w.alloc (.cells #[.string a] 9)).alloc (.cells #[.string b] 9)) := ((Below.refl _ w).alloc (Nat.le_refl _) _).alloc (by simp) _
  have ha0 : ((w.alloc (.cells #[.string a] 9)).alloc (.cells #[.string b] 9)).heap[w.heap.size]? = some (.cells #[.string a] 9 (0, 0)) := (Below.heap_alloc _ _ _ (by simp)).trans (World.alloc_heap_new w _)
  have hb0 : ((w.alloc (.cells #[.string a] 9)).alloc (.cells #[.string b] 9)).heap[w.heap.size + 1]? = some (.cells #[.string b] 9 (0, 0)) := by
    have := World.alloc_heap_new (w.alloc (.cells #[.string a] 9)) (.cells #[.string b] 9); rwa [World.size_alloc] at this
  have hs : ((w.alloc (.cells #[.string a] 9)).alloc (.cells #[.string b] 9)).heap.size = w.heap.size + 1 + 1 := by simp
  obtain ⟨V, hV⟩ : ∃ V, V = (w.alloc (.cells #[.string a] 9)).alloc (.cells #[.string b] 9) := ⟨_, rfl⟩
  go_enter Try.func76, Try.ntmps76
  by_cases hmx : 16777216 < max (a.size : Int) (b.size : Int)
  · have HQ : Hid (betR a b = []) := hide (by rw [betR, if_neg (by omega)])
    have HB := hide hba
    clear hba ha0 hb0 hs hV
    go_wp2
    go_ret
    rw [HQ.out]
    exact ⟨none, 0, rfl, .inl rfl, HB.out⟩
  rw [← hV] at hba ha0 hb0 hs
  have HR : Hid (betR a b = normR (betS a b)) := hide (by rw [betR, if_pos (by omega)])
  obtain ⟨l1, l2⟩ := bet_le a b
  have hh := head_is a b
  have ht := tail_is a b
  have hcell : ∀ W, Below V.heap.size V W → W.cell? ⟨w.heap.size, 0, none⟩ = some (.string a) ∧ W.cell? ⟨w.heap.size + 1, 0, none⟩ = some (.string b) := fun W hW =>
    ⟨by rw [Joins.cell_of_block ((hW.block _ (by omega)).trans ha0)]; rfl, by rw [Joins.cell_of_block ((hW.block _ (by omega)).trans hb0)]; rfl⟩
  have c1 := count1 (min a.size b.size) w.heap.size (w.heap.size + 1) (fun i => a.data.toList.getD i 0 == b.data.toList.getD i 0) V (by omega) fun i W' hi hW => same1 _ _ i a b W' (hcell W' hW).1 (hcell W' hW).2 (by omega) (by omega)
  have c2 : ∀ W, Below V.heap.size V W → Calls Try.prog 114 #[.int .i64 ((min a.size b.size - hdN a b : Nat) : Int), .func (.func 116) #[] #[.pointer (some ⟨w.heap.size, 0, none⟩), .pointer (some ⟨w.heap.size + 1, 0, none⟩)]] W fun e W' => e = .returned (.int .i64 (tlN a b : Int)) ∧ Below W.heap.size W W' := fun W hW => by
    rw [ht]
    exact count2 _ w.heap.size (w.heap.size + 1) _ W (by omega) fun i W' hi hW' => same2 _ _ i a b W' (hcell W' (hW.trans (hW'.mono hW.size))).1 (hcell W' (hW.trans (hW'.mono hW.size))).2 (by omega) (by omega) (by omega) (by omega)
  rw [← hh] at c1
  have w1 : IntKind.i64.wrap (((min a.size b.size : Nat) : Int) - (hdN a b : Int)) = ((min a.size b.size - hdN a b : Nat) : Int) := by rw [IntKind.wrap_i64]; omega
  have w2 : IntKind.i64.wrap ((b.size : Int) - (tlN a b : Int)) = ((b.size - tlN a b : Nat) : Int) := by rw [IntKind.wrap_i64]; omega
  have w3 : IntKind.i64.wrap ((a.size : Int) - (tlN a b : Int)) = ((a.size - tlN a b : Nat) : Int) := by rw [IntKind.wrap_i64]; omega
  have w4 : IntKind.i64.wrap (((a.size - tlN a b : Nat) : Int) - (hdN a b : Int)) = ((a.size - tlN a b - hdN a b : Nat) : Int) := by rw [IntKind.wrap_i64]; omega
  have i1 : hdN a b ≤ b.size - tlN a b := by omega
  have i2 : b.size - tlN a b ≤ b.size := by omega
  have i3 : (hdN a b : Int) ≤ ((b.size - tlN a b : Nat) : Int) := by omega
  have i4 : ((b.size - tlN a b : Nat) : Int) ≤ (b.size : Int) := by omega
  have mn : min (a.size : Int) (b.size : Int) = ((min a.size b.size : Nat) : Int) := by omega
  have HC := hide hcell
  have HC2 := hide c2
  have hN : ∀ W, Calls Try.prog 60 #[.slice (some ⟨W.heap.size, 0, none⟩) 4 4] (W.alloc (.cells (cellsR (betS a b)).toArray 91)).drew fun e W' => Gives W.heap.size W (normR (betS a b)) e W' := fun W => norm_newd W (betS a b) 4 (by simp [betS])
  have hc0 := (hcell V (Below.refl _ _)).1
  have hc1 := (hcell V (Below.refl _ _)).2
  have HBA := hide hba
  unfold betS at hN
  clear hba ha0 hb0 hh ht hcell c2 l1 l2
  go_wp2_with (first
    | (go_at_call 114; refine (HC2.out W1 HB1.out).mono ?_; rintro e W2 ⟨rfl, hb⟩; have HB2 := hide (HB1.out.trans (hb.mono HB1.out.size)); obtain ⟨y0, y1⟩ := HC.out W2 HB2.out; clear hb)
    | (go_at_call 114; rw [← hV]; refine c1.mono ?_; rintro e W1 ⟨rfl, hb⟩; have HB1 := hide hb; obtain ⟨z0, z1⟩ := HC.out W1 hb; clear hb c1))
  go_region_with (go_at_call 60; refine (hN W2).mono ?_; rintro e W3 ⟨a3, c3, rfl, hc, hb⟩; have HC3 := hide hc; have HB3 := hide (HBA.out.trans ((HB2.out.mono HBA.out.size).trans (hb.mono (Nat.le_trans HBA.out.size HB2.out.size)))); clear hc hb)
  all_goals go_wp2_with fail
  all_goals go_ret
  all_goals (rw [HR.out]; exact ⟨a3, c3, rfl, HC3.out, HB3.out⟩)

end Go.Proofs.Ytpmijaplkbmbiaa.E

/- The edit between two texts: the document's way. -/
namespace Go.Proofs.Ytpmijaplkbmbiaa.E
open Go.Proofs.Ytpmijaplkbmbiaa Go.RowKit Go.By Go.Shelf
set_option linter.unusedVariables false
set_option linter.unusedSimpArgs false

def pH (a b : ByteArray) (i : Nat) : Bool := a.data.toList.getD i 0 == b.data.toList.getD i 0
def pT (a b : ByteArray) (i : Nat) : Bool := a.data.toList.getD (a.data.toList.length - 1 - i) 0 == b.data.toList.getD (b.data.toList.length - 1 - i) 0
theorem pT_eq {a b : ByteArray} {i : Nat} : pT a b i = (a.data.toList.getD (a.size - 1 - i) 0 == b.data.toList.getD (b.size - 1 - i) 0) := by rw [pT, sz_list, sz_list]

set_option maxRecDepth 100000 in
set_option maxHeartbeats 4000000 in
theorem rbetween_any (a b : ByteArray) (w : World) (ha : a.size ≤ 16777216) (hb : b.size ≤ 16777216) : Calls Try.prog 77 #[.string a, .string b] w fun e W' => Gives w.heap.size w (betR a b) e W' := by
  have HR : Hid (betR a b = normR (betS a b)) := hide (by rw [betR, if_pos (by omega)])
  have hN : ∀ W, Calls Try.prog 61 #[.slice (some ⟨W.heap.size, 0, none⟩) 4 4] (W.alloc (.cells (cellsR (betS a b)).toArray 91)) fun e W' => Gives W.heap.size W (normR (betS a b)) e W' := fun W => rnorm_new W (betS a b) 4 (by simp [betS])
  have HL := hide (bet_le a b)
  have HH : Hid (hdN a b = cnt (min a.size b.size) (pH a b)) := hide (head_is a b)
  have HT : Hid (tlN a b = cnt (min a.size b.size - hdN a b) (pT a b)) := hide (tail_is a b)
  have HN := hide hN
  clear hN
  go_enter Try.func77, Try.ntmps77
  go_wp2_with fail
  go_loopw [5] (fun i wr => ∃ k : Nat, k ≤ min a.size b.size ∧ i = .int .i64 (k : Int) ∧ Hid ((∀ j, j < k → pH a b j = true) ∧ Below w.heap.size w wr)) (fun i _ => min a.size b.size - (intOf i).toNat)
  case atStart => exact ⟨0, Nat.zero_le _, rfl, hide ⟨fun j hj => by omega, Below.refl _ _⟩⟩
  case round =>
    obtain ⟨k, hk, rfl, HI⟩ := hrel
    go_wp2_with fail
    go_cut [33] from 15 to 35 (fun v wc => v = .bool (decide (k < min a.size b.size) && pH a b k) ∧ Hid (Below w.heap.size w wc))
    case first =>
      by_cases q1 : k < a.size
      · have q1' : (k : Int) < (a.size : Int) := by omega
        by_cases q2 : k < b.size
        · have q2' : (k : Int) < (b.size : Int) := by omega
          have he := byte_eq q1 q2
          obtain ⟨x, hx⟩ : ∃ x, pH a b k = x := ⟨_, rfl⟩
          have HX : Hid ((decide (k < min a.size b.size) && pH a b k) = x) := hide (by rw [decide_eq_true (by omega), Bool.true_and, hx])
          rw [show (a.data.toList.getD k 0 == b.data.toList.getD k 0) = x from hx] at he
          clear hx hk
          go_quiet (fail)
          go_wp2_with fail
          go_meet
          exact ⟨by rw [HX.out], hide (below_drewN HI.out.2 _)⟩
        · have q2' : ¬ (k : Int) < (b.size : Int) := by omega
          have HX : Hid ((decide (k < min a.size b.size) && pH a b k) = false) := hide (by rw [decide_eq_false (by omega), Bool.false_and])
          clear hk
          go_quiet (fail)
          go_wp2_with fail
          go_meet
          exact ⟨by rw [HX.out], hide (below_drewN HI.out.2 _)⟩
      · have q1' : ¬ (k : Int) < (a.size : Int) := by omega
        have HX : Hid ((decide (k < min a.size b.size) && pH a b k) = false) := hide (by rw [decide_eq_false (by omega), Bool.false_and])
        clear hk
        go_quiet (fail)
        go_wp2_with fail
        go_meet
        exact ⟨by rw [HX.out], hide (below_drewN HI.out.2 _)⟩
    case rest =>
      obtain ⟨hv, HB⟩ := hcut
      have w6 : IntKind.i64.wrap ((k : Int) + 1) = (k : Int) + 1 := by rw [IntKind.wrap_i64]; omega
      by_cases hc : (decide (k < min a.size b.size) && pH a b k) = true
      · rw [hc] at hv
        subst hv
        rw [Bool.and_eq_true, decide_eq_true_eq] at hc
        have HCC := hide hc
        have hlt : k < min a.size b.size := hc.1
        clear hc
        go_wp2_with fail
        go_roundw
        case rel => exact ⟨k + 1, by omega, by go_num, hide ⟨fun j hj => by
          rcases Nat.lt_or_ge j k with h | h
          · exact HI.out.1 j h
          · obtain rfl : j = k := by omega
            exact HCC.out.2, HB.out⟩⟩
        case measure => simp [intOf]; omega
      · have hf : (decide (k < min a.size b.size) && pH a b k) = false := by simpa using hc
        rw [hf] at hv
        subst hv
        have hkh : k = hdN a b := by
          rw [HH.out]
          refine cnt_eq ⟨hk, HI.out.1, ?_⟩
          rw [Bool.and_eq_false_iff] at hf
          rcases hf with h | h
          · left; have := of_decide_eq_false h; omega
          · exact .inr h
        clear hc hf
        obtain ⟨l1, l2⟩ := HL.out
        rw [← hkh] at l1 l2
        have HKH := hide hkh
        clear hkh
        go_wp2_with fail
        go_loopw [6] (fun i wr => ∃ n : Nat, n ≤ min a.size b.size - k ∧ i = .int .i64 (n : Int) ∧ Hid ((∀ j, j < n → pT a b j = true) ∧ Below w.heap.size w wr)) (fun i _ => min a.size b.size - k - (intOf i).toNat)
        case atStart => exact ⟨0, Nat.zero_le _, rfl, hide ⟨fun j hj => by omega, HB.out⟩⟩
        case round =>
          obtain ⟨n, hn, rfl, HJ⟩ := hrel
          go_wp2_with fail
          have w1 : IntKind.i64.wrap ((a.size : Int) - (k : Int)) = ((a.size - k : Nat) : Int) := by rw [IntKind.wrap_i64]; omega
          have w2 : IntKind.i64.wrap ((b.size : Int) - (k : Int)) = ((b.size - k : Nat) : Int) := by rw [IntKind.wrap_i64]; omega
          go_cut [66] from 36 to 68 (fun v wc => v = .bool (decide (n < min a.size b.size - k) && pT a b n) ∧ Hid (Below w.heap.size w wc))
          case first =>
            by_cases q1 : n < a.size - k
            · have q1' : (n : Int) < ((a.size - k : Nat) : Int) := by omega
              by_cases q2 : n < b.size - k
              · have q2' : (n : Int) < ((b.size - k : Nat) : Int) := by omega
                obtain ⟨x, hx⟩ : ∃ x, pT a b n = x := ⟨_, rfl⟩
                have HX : Hid ((decide (n < min a.size b.size - k) && pT a b n) = x) := hide (by rw [decide_eq_true (by omega), Bool.true_and, hx])
                rw [pT_eq] at hx
                obtain ⟨i, hi⟩ : ∃ i, i = a.size - 1 - n := ⟨_, rfl⟩
                obtain ⟨j, hj⟩ : ∃ j, j = b.size - 1 - n := ⟨_, rfl⟩
                rw [← hi, ← hj] at hx
                have i1 : i < a.size := by omega
                have i2 : j < b.size := by omega
                have he := byte_eq i1 i2
                rw [hx] at he
                have i3 : (i : Int) < (a.size : Int) := by omega
                have i4 : (j : Int) < (b.size : Int) := by omega
                have v1 : IntKind.i64.wrap ((a.size : Int) - 1) = (a.size : Int) - 1 := by rw [IntKind.wrap_i64]; omega
                have v2 : IntKind.i64.wrap ((a.size : Int) - 1 - (n : Int)) = (i : Int) := by rw [IntKind.wrap_i64]; omega
                have v3 : IntKind.i64.wrap ((b.size : Int) - 1) = (b.size : Int) - 1 := by rw [IntKind.wrap_i64]; omega
                have v4 : IntKind.i64.wrap ((b.size : Int) - 1 - (n : Int)) = (j : Int) := by rw [IntKind.wrap_i64]; omega
                clear hx hk hn hi hj l1 l2
                go_quiet (fail)
                go_wp2_with fail
                go_meet
                exact ⟨by rw [HX.out], hide (below_drewN HJ.out.2 _)⟩
              · have q2' : ¬ (n : Int) < ((b.size - k : Nat) : Int) := by omega
                have HX : Hid ((decide (n < min a.size b.size - k) && pT a b n) = false) := hide (by rw [decide_eq_false (by omega), Bool.false_and])
                clear hk hn l1 l2
                go_quiet (fail)
                go_wp2_with fail
                go_meet
                exact ⟨by rw [HX.out], hide (below_drewN HJ.out.2 _)⟩
            · have q1' : ¬ (n : Int) < ((a.size - k : Nat) : Int) := by omega
              have HX : Hid ((decide (n < min a.size b.size - k) && pT a b n) = false) := hide (by rw [decide_eq_false (by omega), Bool.false_and])
              clear hk hn l1 l2
              go_quiet (fail)
              go_wp2_with fail
              go_meet
              exact ⟨by rw [HX.out], hide (below_drewN HJ.out.2 _)⟩
          case rest =>
            obtain ⟨hv, HB2⟩ := hcut
            have w6 : IntKind.i64.wrap ((n : Int) + 1) = (n : Int) + 1 := by rw [IntKind.wrap_i64]; omega
            by_cases hc : (decide (n < min a.size b.size - k) && pT a b n) = true
            · rw [hc] at hv
              subst hv
              rw [Bool.and_eq_true, decide_eq_true_eq] at hc
              have HCC := hide hc
              have hlt : n < min a.size b.size - k := hc.1
              clear hc
              go_wp2_with fail
              go_roundw
              case rel => exact ⟨n + 1, by omega, by go_num, hide ⟨fun j hj => by
                rcases Nat.lt_or_ge j n with h | h
                · exact HJ.out.1 j h
                · obtain rfl : j = n := by omega
                  exact HCC.out.2, HB2.out⟩⟩
              case measure => simp [intOf]; omega
            · have hf : (decide (n < min a.size b.size - k) && pT a b n) = false := by simpa using hc
              rw [hf] at hv
              subst hv
              have hnt : n = tlN a b := by
                rw [HT.out, ← HKH.out]
                refine cnt_eq ⟨hn, HJ.out.1, ?_⟩
                rw [Bool.and_eq_false_iff] at hf
                rcases hf with h | h
                · left; have := of_decide_eq_false h; omega
                · exact .inr h
              have hbs : betS a b = [⟨(k : Int), ⟨#[]⟩, 0⟩, ⟨0, b.extract k (b.size - n), 0⟩, ⟨0, ⟨#[]⟩, ((a.size - n - k : Nat) : Int)⟩, ⟨(n : Int), ⟨#[]⟩, 0⟩] := by rw [betS, ← HKH.out, ← hnt]
              rw [← hnt] at l1 l2
              have hN := HN.out
              rw [hbs] at hN
              have HBS := hide hbs
              have w3 : IntKind.i64.wrap ((b.size : Int) - (n : Int)) = ((b.size - n : Nat) : Int) := by rw [IntKind.wrap_i64]; omega
              have w4 : IntKind.i64.wrap ((a.size : Int) - (n : Int)) = ((a.size - n : Nat) : Int) := by rw [IntKind.wrap_i64]; omega
              have w5 : IntKind.i64.wrap (((a.size - n : Nat) : Int) - (k : Int)) = ((a.size - n - k : Nat) : Int) := by rw [IntKind.wrap_i64]; omega
              have j1 : k ≤ b.size - n := by omega
              have j2 : b.size - n ≤ b.size := by omega
              have j3 : (k : Int) ≤ ((b.size - n : Nat) : Int) := by omega
              have j4 : ((b.size - n : Nat) : Int) ≤ (b.size : Int) := by omega
              clear hc hf hnt hbs hk hn l1 l2 w1 w2
              go_wp2_with (go_at_call 61; refine (hN _).mono ?_; rintro e W3 ⟨a3, c3, rfl, hc, hb⟩; have HC3 := hide hc; have HB3 := hide hb; clear hc hb)
              go_ret
              rw [HR.out, HBS.out]
              exact ⟨a3, c3, rfl, HC3.out, HB2.out.trans (HB3.out.mono HB2.out.size)⟩

end Go.Proofs.Ytpmijaplkbmbiaa.E

/- The edit between two texts makes the second of the first; the examples; RunBetween, walked. -/
namespace Go.Proofs.Ytpmijaplkbmbiaa.E
open Go.Proofs.Ytpmijaplkbmbiaa Go.RowKit Go.By Go.Shelf
set_option linter.unusedVariables false
set_option linter.unusedSimpArgs false

/-- Not many runs, not too many bytes: what Norm makes of them. -/
theorem norm_light {rs : List Rn} (h1 : tIn (expand rs) ≤ 16777216) (h2 : tOut (expand rs) ≤ 16777216) (hl : rs.length ≤ 1000) :
    normR rs = normT (expand rs) ∧ fitsR (normR rs) (tIn (expand rs) : Int) = true ∧ mOut (meas (normR rs)) = (tOut (expand rs) : Int) ∧ (normR rs).length ≤ 3 * rs.length + 3 := by
  have hlen := len_normT rs
  have e : normR rs = normT (expand rs) := by rw [normR, if_pos ⟨h1, h2, by omega⟩]
  obtain ⟨j, hj⟩ := meas_normT h1 h2 (by omega)
  refine ⟨e, ?_, by rw [e, hj]; rfl, by rw [e]; exact hlen⟩
  rw [fitsR, isG_normR, Bool.true_and, decide_eq_true_eq, e, hj]; rfl
theorem outB_norm {rs : List Rn} (s : ByteArray) (e : normR rs = normT (expand rs)) : outB s (normR rs) = outB s rs := by
  rw [outB, outB, e, applT, ascan_normT, ← applT]
theorem betS_sums (a b : ByteArray) : tIn (expand (betS a b)) = a.size ∧ tOut (expand (betS a b)) = b.size := by
  rw [betS_eq, tIn_betL, tOut_betL, sz_list, sz_list]; exact ⟨rfl, rfl⟩
theorem outB_bet (a b : ByteArray) : outB a (betS a b) = b := by
  apply ba_eq
  rw [outB, betS_eq, applT_betL]
/-- What Apply makes with the edit between two texts. -/
theorem apply_bet {a b : ByteArray} (ha : a.size ≤ 16777216) (hb : b.size ≤ 16777216) : applyV (betR a b) a = .tuple #[.string b, .int .i64 0] ∧ (betR a b).length ≤ 100 := by
  obtain ⟨s1, s2⟩ := betS_sums a b
  obtain ⟨e, hf, _, hl⟩ := norm_light (rs := betS a b) (by omega) (by omega) (by simp [betS])
  have hr : betR a b = normR (betS a b) := by rw [betR, if_pos (by omega)]
  rw [s1] at hf
  rw [hr]
  refine ⟨?_, by simp only [betS, List.length_cons, List.length_nil] at hl ⊢; omega⟩
  rw [applyV, if_pos hf, outB_norm a e, outB_bet]
theorem idle_bet (a : ByteArray) (ha : a.size ≤ 16777216) : idleB (betR a a) = true := by
  have hr : betR a a = normR (betS a a) := by rw [betR, if_pos (by omega)]
  have he : expand (betS a a) = expand [⟨(a.size : Int), ⟨#[]⟩, 0⟩] := by
    rw [betS_eq, betL_self, expand_one, toks_keep, sz_list, Int.toNat_natCast]
  rw [hr, normR_expand he, norm_noth, idleB]
  have hg : isG (nothR (a.size : Int)) = true := by rw [← norm_noth]; exact isG_normR _
  rw [hg, Bool.true_and, decide_eq_true_eq, nothR]
  split
  · exact .inl rfl
  · rename_i h
    exact .inr ⟨rfl, kind_one (show (0 : Int) < (a.size : Int) by omega) nil_toList rfl⟩

theorem live1 : applyV [⟨1, ⟨#[]⟩, 0⟩, ⟨0, ⟨#[120]⟩, 0⟩, ⟨0, ⟨#[]⟩, 1⟩] ⟨#[97, 98]⟩ = .tuple #[.string ⟨#[97, 120]⟩, .int .i64 0] := by
  have e : ([⟨1, ⟨#[]⟩, 0⟩, ⟨0, ⟨#[120]⟩, 0⟩, ⟨0, ⟨#[]⟩, 1⟩] : List Rn) = normT [.K, .A 120, .D] := rfl
  obtain ⟨j, hj⟩ := meas_normT (ts := [.K, .A 120, .D]) (by decide) (by decide) (by decide)
  have hf : fitsR (normT [.K, .A 120, .D]) 2 = true := by
    rw [fitsR, isG_normT (by decide) (by decide), hj]; rfl
  rw [e, applyV, show ((⟨#[97, 98]⟩ : ByteArray).size : Int) = 2 from rfl, if_pos hf, outB, applT, ascan_normT]
  rfl
theorem live2 : betR ⟨#[97, 98, 99, 100]⟩ ⟨#[97, 98, 88, 100]⟩ = [⟨2, ⟨#[]⟩, 0⟩, ⟨0, ⟨#[88]⟩, 0⟩, ⟨0, ⟨#[]⟩, 1⟩, ⟨1, ⟨#[]⟩, 0⟩] := by
  have e : expand (betS ⟨#[97, 98, 99, 100]⟩ ⟨#[97, 98, 88, 100]⟩) = [.K, .K, .A 88, .D, .K] := by
    rw [betS_eq, expand_betL]; rfl
  rw [betR, if_pos (by decide), normR, e]
  rfl

set_option maxRecDepth 20000 in
set_option maxHeartbeats 4000000 in
theorem lives7_any (w : World) : Calls Try.prog 69 #[] w fun e W' => e = .returned (.bool true) ∧ Below w.heap.size w W' := by
  have hA : Calls Try.prog 70 #[.slice (some ⟨w.heap.size, 0, none⟩) 3 3, .string ⟨#[97, 98]⟩] (w.alloc (.cells #[.int .i64 1, .string ⟨#[]⟩, .int .i64 0, .int .i64 0, .string ⟨#[120]⟩, .int .i64 0, .int .i64 0, .string ⟨#[]⟩, .int .i64 1] 91)) fun e W' => e = .returned (.tuple #[.string ⟨#[97, 120]⟩, .int .i64 0]) ∧ Hid (Below w.heap.size w W') :=
    (apply_any (some ⟨w.heap.size, 0, none⟩) 3 [⟨1, ⟨#[]⟩, 0⟩, ⟨0, ⟨#[120]⟩, 0⟩, ⟨0, ⟨#[]⟩, 1⟩] ⟨#[97, 98]⟩ _ (came_new w _) (by simp)).mono fun e W' ⟨he, hb⟩ =>
      ⟨by rw [he, live1], hide (((Below.refl _ w).alloc (Nat.le_refl _) _).trans (hb.mono (by simp)))⟩
  have hB : ∀ W, Calls Try.prog 76 #[.string ⟨#[97, 98, 99, 100]⟩, .string ⟨#[97, 98, 88, 100]⟩] W fun e W' => ∃ a c, e = .returned (.slice a 4 c) ∧ Hid (CameR W'.heap.size W' a [⟨2, ⟨#[]⟩, 0⟩, ⟨0, ⟨#[88]⟩, 0⟩, ⟨0, ⟨#[]⟩, 1⟩, ⟨1, ⟨#[]⟩, 0⟩]) ∧ Hid (Below W.heap.size W W') := fun W =>
    (between_any _ _ W).mono fun e W' ⟨a, c, he, hc, hb⟩ => by
      rw [live2] at he hc
      exact ⟨a, c, he, hc, hb⟩
  go_enter Try.func69, Try.ntmps69
  go_wp2_with (go_at_call 70; refine hA.mono ?_; rintro e W1 ⟨rfl, HB1⟩)
  go_wp2_with (go_at_call 76; refine (hB W1).mono ?_; rintro e W2 ⟨a2, c2, rfl, HC2, HB2⟩)
  go_wp2_with (go_at_call 59; refine (rsame_is a2 (some ⟨W2.heap.size, 0, none⟩) c2 4 _ [⟨2, ⟨#[]⟩, 0⟩, ⟨0, ⟨#[88]⟩, 0⟩, ⟨0, ⟨#[]⟩, 1⟩, ⟨1, ⟨#[]⟩, 0⟩] _ (up_new HC2.out _) (came_new W2 _) (by simp) rfl).mono ?_; rintro e W3 ⟨rfl, hb3⟩; have HB3 := hide hb3; clear hb3)
  go_ret
  refine ⟨rfl, ?_⟩
  have b2 := HB1.out.trans (HB2.out.mono HB1.out.size)
  have b3 := b2.alloc b2.size (.cells (cellsR [⟨2, ⟨#[]⟩, 0⟩, ⟨0, ⟨#[88]⟩, 0⟩, ⟨0, ⟨#[]⟩, 1⟩, ⟨1, ⟨#[]⟩, 0⟩]).toArray 91)
  exact b3.trans (HB3.out.mono b3.size)

set_option maxRecDepth 100000 in
set_option maxHeartbeats 4000000 in
theorem runbetween_any (a b : ByteArray) (w : World) : Calls Try.prog 17 #[.string a, .string b] w fun e W' => e = .returned (.bool true) ∧ Below w.heap.size w W' := by
  go_enter Try.func17, Try.ntmps17
  by_cases h1 : (2000 : Int) < (a.size : Int)
  · go_wp2_with (go_at_call 69; refine (lives7_any w).mono ?_; rintro e W1 ⟨rfl, hb⟩; have HB := hide hb; clear hb)
    go_ret
    exact ⟨rfl, HB.out⟩
  by_cases h2 : (2000 : Int) < (b.size : Int)
  · go_wp2_with (go_at_call 69; refine (lives7_any w).mono ?_; rintro e W1 ⟨rfl, hb⟩; have HB := hide hb; clear hb)
    go_ret
    exact ⟨rfl, HB.out⟩
  have ha : a.size ≤ 16777216 := by omega
  have hb : b.size ≤ 16777216 := by omega
  obtain ⟨hv, hl⟩ := apply_bet ha hb
  have hi := idle_bet a ha
  have hla := (apply_bet ha ha).2
  have HV := hide hv
  have HI := hide hi
  have HL := hide hl
  have HLA := hide hla
  have HAB := hide (And.intro ha hb)
  clear hv hl hi hla ha hb
  go_wp2_with (go_at_call 76; refine (between_any a b w).mono ?_; rintro e W1 ⟨a1, c1, rfl, hc, hb⟩; have HC1 := hide hc; have HB1 := hide hb; clear hc hb)
  go_wp2_with (go_at_call 70; refine (apply_any a1 c1 _ a W1 HC1.out (by have := HL.out; omega)).mono ?_; rintro e W2 ⟨rfl, hb⟩; rw [HV.out]; have HC2 := hide (came_up HC1.out hb); have HB2 := hide (HB1.out.trans (hb.mono HB1.out.size)); clear hb)
  go_wp2_with (go_at_call 77; refine (rbetween_any a b W2 HAB.out.1 HAB.out.2).mono ?_; rintro e W3 ⟨a3, c3, rfl, hc, hb⟩; have HC3 := hide hc; have HD3 := hide (came_up HC2.out hb); have HB3 := hide (HB2.out.trans (hb.mono HB2.out.size)); clear hc hb)
  go_wp2_with (go_at_call 59; refine (rsame_is a1 a3 c1 c3 _ _ W3 HD3.out HC3.out (by have := HL.out; omega) rfl).mono ?_; rintro e W4 ⟨rfl, hb⟩; have HB4 := hide (HB3.out.trans (hb.mono HB3.out.size)); clear hb)
  go_wp2_with (go_at_call 76; refine (between_any a a W4).mono ?_; rintro e W5 ⟨a5, c5, rfl, hc, hb⟩; have HC5 := hide hc; have HB5 := hide (HB4.out.trans (hb.mono HB4.out.size)); clear hc hb)
  go_wp2_with (go_at_call 57; refine (idle_any a5 c5 _ W5 HC5.out (by have := HLA.out; omega)).mono ?_; rintro e W6 ⟨rfl, hb⟩; rw [HI.out]; have HB6 := hide (HB5.out.trans (hb.mono HB5.out.size)); clear hb)
  go_wp2_with (go_at_call 69; refine (lives7_any W6).mono ?_; rintro e W7 ⟨rfl, hb⟩; have HB7 := hide (HB6.out.trans (hb.mono HB6.out.size)); clear hb)
  go_ret
  exact ⟨rfl, HB7.out⟩

end Go.Proofs.Ytpmijaplkbmbiaa.E
