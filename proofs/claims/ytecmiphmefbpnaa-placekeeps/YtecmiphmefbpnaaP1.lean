/- Of edit: what is needed of a run's text, and whether an edit is light. -/
import Derived.Test.YtecmiphmefbpnaaEd9
namespace Go.Proofs.Ytecmiphmefbpnaa.E
open Go.Proofs.Ytecmiphmefbpnaa Go.RowKit Go.By Go.Shelf
set_option linter.unusedVariables false

deriving instance DecidableEq for Rn

theorem below_drew2 {B : Nat} {w0 w : World} (h : Below B w0 w) : Below B w0 w.drew := ⟨h.os, h.tape, h.output, h.size, h.block⟩

theorem below_drewN {B : Nat} {w0 w : World} (h : Below B w0 w) (n : Nat) : Below B w0 (w.drewN n) := ⟨h.os, h.tape, h.output, h.size, h.block⟩

theorem loop_eq (bs : ByteArray) (k : Nat) : ∀ (i : Nat) (r : List UInt8), bs.size - i = k → ByteArray.toList.loop bs i r = r.reverse ++ bs.data.toList.drop i := by
  have hsz : bs.size = bs.data.toList.length := Lib.size_eq bs
  induction k with
  | zero => intro i r h; rw [ByteArray.toList.loop.eq_1, if_neg (by omega), List.drop_eq_nil_of_le (by omega)]; simp
  | succ k ih =>
    intro i r h
    rw [ByteArray.toList.loop.eq_1, if_pos (by omega), ih (i + 1) _ (by omega), List.drop_eq_getElem_cons (i := i) (by omega)]
    have h2 : i < bs.data.size := by have h3 : bs.data.toList.length = bs.data.size := Array.length_toList; omega
    have h4 : bs.data[i]! = bs.data[i] := getElem!_pos bs.data i h2
    simp [ByteArray.get!]
    exact h4
theorem toList_data (bs : ByteArray) : bs.toList = bs.data.toList := by rw [ByteArray.toList, loop_eq bs bs.size 0 [] (by omega)]; simp
theorem toList_inj {a b : ByteArray} (h : a.toList = b.toList) : a = b := by
  rw [toList_data, toList_data] at h
  cases a; cases b
  simp at h
  rw [h]

theorem take_eq_of {a b : List Rn} {k : Nat} (h1 : k < a.length) (h2 : k < b.length) (h : a.take k = b.take k) (he : a.getD k rn0 = b.getD k rn0) : a.take (k + 1) = b.take (k + 1) := by
  rw [List.take_succ_eq_append_getElem h1, List.take_succ_eq_append_getElem h2, h]
  simp [List.getD, h1, h2] at he
  rw [he]

theorem came_at {n₀ : Nat} {W : World} {a : Option Addr} {rs : List Rn} {k : Nat} (h : CameR n₀ W a rs) (hk : k < rs.length) : ∃ b off, a = some ⟨b, off, none⟩ ∧
    W.cell? ⟨b, off + k * 3, none⟩ = some (.int .i64 (rs.getD k rn0).keep) ∧ W.cell? ⟨b, off + k * 3 + 1, none⟩ = some (.string (rs.getD k rn0).add) ∧ W.cell? ⟨b, off + k * 3 + 2, none⟩ = some (.int .i64 (rs.getD k rn0).drop) := by
  rcases h with rfl | ⟨b, off, e, hl, hc⟩
  · simp at hk
  · exact ⟨b, off, e, hc k hk⟩

def LightR (rs : List Rn) : Prop := rs.length ≤ 100 ∧ ∀ x ∈ rs, x.add.size ≤ 200
instance (rs : List Rn) : Decidable (LightR rs) := by unfold LightR; infer_instance

/-- Runs are told. -/
def Gives (n₀ : Nat) (w : World) (rs : List Rn) (e : Ending) (W' : World) : Prop := ∃ a cap, e = .returned (.slice a rs.length cap) ∧ CameR W'.heap.size W' a rs ∧ Below n₀ w W'

set_option maxRecDepth 100000 in
set_option maxHeartbeats 8000000 in
theorem light_any (a : Option Addr) (cap : Nat) (rs : List Rn) (w : World) (hS : CameR w.heap.size w a rs) :
    Calls Try.prog 24 #[.slice a rs.length cap] w fun e W' => e = .returned (.bool (decide (LightR rs))) ∧ Below w.heap.size w W' := by
  go_enter Try.func24, Try.ntmps24
  by_cases hle : rs.length ≤ 100
  · have hle' : ¬ (100 : Int) < (rs.length : Int) := by omega
    go_wp2
    go_loopw [10] (fun c wr => ∃ k : Nat, k ≤ rs.length ∧ c = .int .i64 k ∧ (∀ x ∈ rs.take k, x.add.size ≤ 200) ∧ Below w.heap.size w wr)
      (fun c _ => rs.length - (intOf c).toNat)
    case atStart => exact ⟨0, Nat.zero_le _, rfl, by simp, Below.refl _ _⟩
    case round =>
      obtain ⟨k, hk, rfl, hs, hnx⟩ := hrel
      by_cases hlt : k < rs.length
      · obtain ⟨b, off, rfl, s0, s1, s2⟩ := came_at (hS.below hnx) hlt
        have hsn : rs.take (k + 1) = rs.take k ++ [rs.getD k rn0] := by rw [List.take_succ_eq_append_getElem hlt]; simp [List.getD, hlt]
        have hmem : rs.getD k rn0 ∈ rs := by simp [List.getD, hlt]
        obtain ⟨x, hx⟩ : ∃ x, x = rs.getD k rn0 := ⟨_, rfl⟩
        rw [← hx] at s0 s1 s2 hsn hmem
        obtain ⟨xk, xa, xd⟩ := x
        dsimp only at s0 s1 s2
        have hlt' : (k : Int) < (rs.length : Int) := by omega
        have HB := hide (hnx.alloc hnx.size (.cells #[.int .i64 xk, .string xa, .int .i64 xd] 51))
        by_cases hz : xa.size ≤ 200
        · have hz' : ¬ (200 : Int) < (xa.size : Int) := by omega
          have HQ : Hid (∀ x ∈ rs.take (k + 1), x.add.size ≤ 200) := by
            show ∀ x ∈ rs.take (k + 1), x.add.size ≤ 200
            rw [hsn]
            intro x hx
            rcases List.mem_append.1 hx with h | h
            · exact hs x h
            · rw [List.mem_singleton.1 h]; exact hz
          clear hx hsn hmem hs hnx hS
          go_wp2
          go_roundw
          case rel => exact ⟨k + 1, by omega, by simp, HQ.out, HB.out⟩
          case measure => simp [intOf]; omega
        · have hz' : (200 : Int) < (xa.size : Int) := by omega
          have HQ : Hid (¬ LightR rs) := fun h => hz (h.2 _ hmem)
          clear hx hsn hmem hs hnx hS
          go_wp2
          go_ret
          exact ⟨ret_bool (decide_eq_false HQ.out).symm, HB.out⟩
      · obtain rfl : k = rs.length := by omega
        have HQ : Hid (LightR rs) := ⟨hle, by rw [List.take_length] at hs; exact hs⟩
        clear hs
        go_wp2
        go_ret
        exact ⟨ret_bool (decide_eq_true HQ.out).symm, hnx⟩
  · have hle' : (100 : Int) < (rs.length : Int) := by omega
    go_wp2
    go_ret
    exact ⟨ret_bool (decide_eq_false (fun h => hle h.1)).symm, Below.refl _ _⟩

end Go.Proofs.Ytecmiphmefbpnaa.E
