/- Same. -/
import Derived.Test.YtpmijaplkbmbiaaEd9
namespace Go.Proofs.Ytpmijaplkbmbiaa.E
open Go.Proofs.Ytpmijaplkbmbiaa Go.RowKit Go.By Go.Shelf
set_option linter.unusedVariables false

deriving instance DecidableEq for Rn

theorem below_drew2 {B : Nat} {w0 w : World} (h : Below B w0 w) : Below B w0 w.drew := ⟨h.os, h.tape, h.output, h.size, h.block⟩

theorem below_drewN {B : Nat} {w0 w : World} (h : Below B w0 w) (n : Nat) : Below B w0 (w.drewN n) := ⟨h.os, h.tape, h.output, h.size, h.block⟩

theorem loop_eq (bs : ByteArray) (k : Nat) : ∀ (i : Nat) (r : List UInt8), bs.size - i = k → ByteArray.toList.loop bs i r = r.reverse ++ bs.data.toList.drop i := by
  have hsz : bs.size = bs.data.toList.length := Lib.size_eq bs
  induction k with
  | zero => intro i r h; rw [ByteArray.toList.loop.eq_1, if_neg (by omega), List.drop_eq_nil_of_le (by omega)]; simp
  | succ k ih =>
    intro i r h
    rw [ByteArray.toList.loop.eq_1, if_pos (by omega), ih (i + 1) _ (by omega), List.drop_eq_getElem_cons (i := i) (by omega)]
    have h2 : i < bs.data.size := by have h3 : bs.data.toList.length = bs.data.size := Array.length_toList; omega
    have h4 : bs.data[i]! = bs.data[i] := getElem!_pos bs.data i h2
    simp [ByteArray.get!]
    exact h4
theorem toList_data (bs : ByteArray) : bs.toList = bs.data.toList := by rw [ByteArray.toList, loop_eq bs bs.size 0 [] (by omega)]; simp
theorem toList_inj {a b : ByteArray} (h : a.toList = b.toList) : a = b := by
  rw [toList_data, toList_data] at h
  cases a; cases b
  simp at h
  rw [h]

theorem take_eq_of {a b : List Rn} {k : Nat} (h1 : k < a.length) (h2 : k < b.length) (h : a.take k = b.take k) (he : a.getD k rn0 = b.getD k rn0) : a.take (k + 1) = b.take (k + 1) := by
  rw [List.take_succ_eq_append_getElem h1, List.take_succ_eq_append_getElem h2, h]
  simp [List.getD, h1, h2] at he
  rw [he]

theorem came_at {n₀ : Nat} {W : World} {a : Option Addr} {rs : List Rn} {k : Nat} (h : CameR n₀ W a rs) (hk : k < rs.length) : ∃ b off, a = some ⟨b, off, none⟩ ∧
    W.cell? ⟨b, off + k * 3, none⟩ = some (.int .i64 (rs.getD k rn0).keep) ∧ W.cell? ⟨b, off + k * 3 + 1, none⟩ = some (.string (rs.getD k rn0).add) ∧ W.cell? ⟨b, off + k * 3 + 2, none⟩ = some (.int .i64 (rs.getD k rn0).drop) := by
  rcases h with rfl | ⟨b, off, e, hl, hc⟩
  · simp at hk
  · exact ⟨b, off, e, hc k hk⟩

set_option maxRecDepth 100000 in
set_option maxHeartbeats 8000000 in
theorem rsame_any (a a' : Option Addr) (cap cap' : Nat) (rs rs' : List Rn) (w : World) (hS : CameR w.heap.size w a rs) (hS' : CameR w.heap.size w a' rs') (hl : rs.length ≤ 1000000) :
    Calls Try.prog 59 #[.slice a rs.length cap, .slice a' rs'.length cap'] w fun e W' => e = .returned (.bool (decide (rs = rs'))) ∧ Below w.heap.size w W' := by
  go_enter Try.func59, Try.ntmps59
  by_cases hn : rs.length = rs'.length
  · have hn' : ((rs.length : Int) != (rs'.length : Int)) = false := by simp [hn]
    go_wp2
    go_loopw [5] (fun c wr => ∃ k : Nat, k ≤ rs.length ∧ c = .int .i64 k ∧ rs.take k = rs'.take k ∧ Below w.heap.size w wr)
      (fun c _ => rs.length - (intOf c).toNat)
    case atStart => exact ⟨0, Nat.zero_le _, rfl, rfl, Below.refl _ _⟩
    case round =>
      obtain ⟨k, hk, rfl, hs, hnx⟩ := hrel
      by_cases hlt : k < rs.length
      · have hlt2 : k < rs'.length := by omega
        obtain ⟨b, off, rfl, s0, s1, s2⟩ := came_at (hS.below hnx) hlt
        obtain ⟨b', off', rfl, t0, t1, t2⟩ := came_at (hS'.below hnx) hlt2
        have hne : ¬ rs.getD k rn0 = rs'.getD k rn0 → ¬ rs = rs' := fun h e => h (by rw [e])
        have heq : rs.getD k rn0 = rs'.getD k rn0 → rs.take (k + 1) = rs'.take (k + 1) := take_eq_of hlt hlt2 hs
        obtain ⟨x, hx⟩ : ∃ x, x = rs.getD k rn0 := ⟨_, rfl⟩
        obtain ⟨y, hy⟩ : ∃ y, y = rs'.getD k rn0 := ⟨_, rfl⟩
        rw [← hx] at s0 s1 s2 hne heq
        rw [← hy] at t0 t1 t2 hne heq
        obtain ⟨xk, xa, xd⟩ := x
        obtain ⟨yk, ya, yd⟩ := y
        have HNE := hide hne
        have HEQ := hide heq
        have HNX := hide hnx
        have hlt' : (k : Int) < (rs.length : Int) := by omega
        have hlt2' : (k : Int) < (rs'.length : Int) := by omega
        clear hne heq hnx hx hy hs hS hS'
        dsimp only at s0 s1 s2 t0 t1 t2
        go_wp2_with fail
        by_cases e1 : xk = yk
        · by_cases e2 : xa = ya
          · by_cases e3 : xd = yd
            · subst e1 e2 e3
              go_quiet (fail)
              go_wp2
              go_roundw
              case rel => exact ⟨k + 1, by omega, by simp, HEQ.out rfl, below_drewN HNX.out _⟩
              case measure => simp [intOf]; omega
            · subst e1 e2
              have e3' : (xd == yd) = false := by simp [e3]
              have HQ := hide (HNE.out (fun h => e3 (congrArg Rn.drop h)))
              go_quiet (fail)
              go_wp2
              go_ret
              exact ⟨ret_bool (decide_eq_false HQ.out).symm, below_drewN HNX.out _⟩
          · subst e1
            have e2' : ¬ xa.toList = ya.toList := fun h => e2 (toList_inj h)
            have e2a : (xa.toList == ya.toList) = false := beq_eq_false_iff_ne.2 e2'
            have HQ := hide (HNE.out (fun h => e2 (congrArg Rn.add h)))
            go_quiet (fail)
            go_wp2
            go_ret
            exact ⟨ret_bool (decide_eq_false HQ.out).symm, below_drewN HNX.out _⟩
        · have e1' : (xk == yk) = false := by simp [e1]
          have HQ := hide (HNE.out (fun h => e1 (congrArg Rn.keep h)))
          go_quiet (fail)
          go_wp2
          go_ret
          exact ⟨ret_bool (decide_eq_false HQ.out).symm, below_drewN HNX.out _⟩
      · obtain rfl : k = rs.length := by omega
        have he : rs = rs' := by rw [List.take_length, hn, List.take_length] at hs; exact hs
        have HE := hide he
        clear he hs
        go_wp2
        go_ret
        exact ⟨ret_bool (decide_eq_true HE.out).symm, hnx⟩
  · have hn' : ((rs.length : Int) != (rs'.length : Int)) = true := by simp; omega
    go_wp2
    go_ret
    exact ⟨ret_bool (decide_eq_false (fun h => hn (by rw [h]))).symm, Below.refl _ _⟩

set_option maxRecDepth 100000 in
set_option maxHeartbeats 8000000 in
theorem equal_any (a a' : Option Addr) (cap cap' : Nat) (rs rs' : List Rn) (w : World) (hS : CameR w.heap.size w a rs) (hS' : CameR w.heap.size w a' rs') (hl : rs.length ≤ 1000000) :
    Calls Try.prog 107 #[.slice a rs.length cap, .slice a' rs'.length cap'] w fun e W' => e = .returned (.bool (decide (rs = rs'))) ∧ Below w.heap.size w W' := by
  go_enter Try.func107, Try.ntmps107
  by_cases hn : rs.length = rs'.length
  · have hn' : ((rs.length : Int) != (rs'.length : Int)) = false := by simp [hn]
    go_wp2
    go_loopw [13] (fun c wr => ∃ k : Nat, k ≤ rs.length ∧ c = .int .i64 k ∧ rs.take k = rs'.take k ∧ Below w.heap.size w wr)
      (fun c _ => rs.length - (intOf c).toNat)
    case atStart => exact ⟨0, Nat.zero_le _, rfl, rfl, Below.refl _ _⟩
    case round =>
      obtain ⟨k, hk, rfl, hs, hnx⟩ := hrel
      by_cases hlt : k < rs.length
      · have hlt2 : k < rs'.length := by omega
        obtain ⟨b, off, rfl, s0, s1, s2⟩ := came_at (hS.below hnx) hlt
        obtain ⟨b', off', rfl, t0, t1, t2⟩ := came_at (hS'.below hnx) hlt2
        have hne : ¬ rs.getD k rn0 = rs'.getD k rn0 → ¬ rs = rs' := fun h e => h (by rw [e])
        have heq : rs.getD k rn0 = rs'.getD k rn0 → rs.take (k + 1) = rs'.take (k + 1) := take_eq_of hlt hlt2 hs
        obtain ⟨x, hx⟩ : ∃ x, x = rs.getD k rn0 := ⟨_, rfl⟩
        obtain ⟨y, hy⟩ : ∃ y, y = rs'.getD k rn0 := ⟨_, rfl⟩
        rw [← hx] at s0 s1 s2 hne heq
        rw [← hy] at t0 t1 t2 hne heq
        obtain ⟨xk, xa, xd⟩ := x
        obtain ⟨yk, ya, yd⟩ := y
        have HNE := hide hne
        have HEQ := hide heq
        have HNX := hide hnx
        have hlt' : (k : Int) < (rs.length : Int) := by omega
        have hlt2' : (k : Int) < (rs'.length : Int) := by omega
        clear hne heq hnx hx hy hs hS hS'
        dsimp only at s0 s1 s2 t0 t1 t2
        go_wp2_with fail
        by_cases e1 : xk = yk
        · by_cases e2 : xa = ya
          · by_cases e3 : xd = yd
            · subst e1 e2 e3
              go_quiet (fail)
              go_wp2
              go_roundw
              case rel => exact ⟨k + 1, by omega, by simp, HEQ.out rfl, below_drewN HNX.out _⟩
              case measure => simp [intOf]; omega
            · subst e1 e2
              have e3' : (xd == yd) = false := by simp [e3]
              have HQ := hide (HNE.out (fun h => e3 (congrArg Rn.drop h)))
              go_quiet (fail)
              go_wp2
              go_ret
              exact ⟨ret_bool (decide_eq_false HQ.out).symm, below_drewN HNX.out _⟩
          · subst e1
            have e2' : ¬ xa.toList = ya.toList := fun h => e2 (toList_inj h)
            have e2a : (xa.toList == ya.toList) = false := beq_eq_false_iff_ne.2 e2'
            have HQ := hide (HNE.out (fun h => e2 (congrArg Rn.add h)))
            go_quiet (fail)
            go_wp2
            go_ret
            exact ⟨ret_bool (decide_eq_false HQ.out).symm, below_drewN HNX.out _⟩
        · have e1' : (xk == yk) = false := by simp [e1]
          have HQ := hide (HNE.out (fun h => e1 (congrArg Rn.keep h)))
          go_quiet (fail)
          go_wp2
          go_ret
          exact ⟨ret_bool (decide_eq_false HQ.out).symm, below_drewN HNX.out _⟩
      · obtain rfl : k = rs.length := by omega
        have he : rs = rs' := by rw [List.take_length, hn, List.take_length] at hs; exact hs
        have HE := hide he
        clear he hs
        go_wp2
        go_ret
        exact ⟨ret_bool (decide_eq_true HE.out).symm, hnx⟩
  · have hn' : ((rs.length : Int) != (rs'.length : Int)) = true := by simp; omega
    go_wp2
    go_ret
    exact ⟨ret_bool (decide_eq_false (fun h => hn (by rw [h]))).symm, Below.refl _ _⟩

set_option maxRecDepth 20000 in
set_option maxHeartbeats 4000000 in
theorem same_any (a a' : Option Addr) (cap cap' : Nat) (rs rs' : List Rn) (w : World) (hS : CameR w.heap.size w a rs) (hS' : CameR w.heap.size w a' rs') (hl : rs.length ≤ 1000000) :
    Calls Try.prog 62 #[.slice a rs.length cap, .slice a' rs'.length cap'] w fun e W' => e = .returned (.bool (decide (rs = rs'))) ∧ Below w.heap.size w W' := by
  have he := equal_any a a' cap cap' rs rs' w hS hS' hl
  go_enter Try.func62, Try.ntmps62
  go_wp2_with fail
  refine he.mono ?_
  rintro e W' ⟨rfl, hb⟩
  have HB := hide hb
  clear hb
  go_wp2
  go_ret
  exact ⟨rfl, HB.out⟩

end Go.Proofs.Ytpmijaplkbmbiaa.E
