/- Texts, put one behind the other: their bytes, and what the call texts makes of a list of them. -/
import Derived.Test.YtaichjkenfnkbaaBack
namespace Vary
/-- The bytes of texts, one behind the other. -/
def all : List (List Nat) → List Nat
  | [] => []
  | s :: r => putT s ++ all r

theorem all_append (a b : List (List Nat)) : all (a ++ b) = all a ++ all b := by
  induction a with
  | nil => rfl
  | cons s r ih => simp [all, ih]

theorem put_short {n : Nat} (h : n ≤ 200) : (put n).length ≤ 2 := by
  unfold put
  by_cases h1 : n < 128
  · rw [putF_less _ _ h1]; simp
  · rw [putF_more 8 n (by omega), putF_less _ _ (by omega)]; simp

theorem all_length {l : List (List Nat)} (h : ∀ s ∈ l, s.length ≤ 200) : (all l).length ≤ 202 * l.length := by
  induction l with
  | nil => simp [all]
  | cons s r ih =>
    have h1 := h s (by simp)
    have h2 := ih fun x hx => h x (by simp [hx])
    have h3 := put_short h1
    simp [all, putT]; omega

theorem all_small {l : List (List Nat)} (h : ∀ s ∈ l, s.length ≤ 200) (h2 : ∀ s ∈ l, ∀ c ∈ s, c < 256) : ∀ c ∈ all l, c < 256 := by
  induction l with
  | nil => simp [all]
  | cons s r ih =>
    intro c hc
    simp only [all, putT, List.mem_append] at hc
    rcases hc with (hc | hc) | hc
    · refine put_small ?_ c hc
      have := h s (by simp); unfold maxNum; omega
    · exact h2 s (by simp) c hc
    · exact ih (fun x hx => h x (by simp [hx])) (fun x hx => h2 x (by simp [hx])) c hc

theorem all_apart {l m : List (List Nat)} (r q : List Nat) (hl : ∀ s ∈ l, s.length ≤ 200) (hm : ∀ s ∈ m, s.length ≤ 200) (hlen : l.length = m.length) (h : all l ++ r = all m ++ q) : l = m := by
  induction l generalizing m with
  | nil => cases m with
    | nil => rfl
    | cons t m => simp at hlen
  | cons s l ih =>
    cases m with
    | nil => simp at hlen
    | cons t m =>
      simp only [all, List.append_assoc] at h
      have e1 := txt_put s (all l ++ r) (by have := hl s (by simp); unfold maxNum; omega)
      have e2 := txt_put t (all m ++ q) (by have := hm t (by simp); unfold maxNum; omega)
      rw [h, e2] at e1
      simp only [Option.some.injEq, Prod.mk.injEq] at e1
      obtain ⟨rfl, -⟩ := e1
      have := ih (fun x hx => hl x (by simp [hx])) (fun x hx => hm x (by simp [hx])) (by simpa using hlen) (List.append_cancel_left h)
      rw [this]

theorem all_told {l m : List (List Nat)} (hl : ∀ s ∈ l, s.length ≤ 200) (hm : ∀ s ∈ m, s.length ≤ 200) (hlen : l.length = m.length) (k : Nat) (hk : k ≤ (all l).length) (hk2 : k ≤ (all m).length) (hk3 : k = (all l).length ∨ k = (all m).length)
    (h : (all l).take k = (all m).take k) : l = m := by
  rcases hk3 with rfl | rfl
  · rw [List.take_length] at h
    refine all_apart ((all m).drop (all l).length) [] hl hm hlen ?_
    conv => lhs; lhs; rw [h]
    simp
  · rw [List.take_length] at h
    refine all_apart [] ((all l).drop (all m).length) hl hm hlen ?_
    conv => rhs; lhs; rw [← h]
    simp
end Vary
namespace Go.By
open Go.RowKit
/-- A list of texts that came in, and where it lies: in blocks below B. -/
def CameS (B : Nat) (w : World) (a : Option Addr) (ss : List (List Nat)) : Prop :=
  (∀ s ∈ ss, ∀ c ∈ s, c < 256) ∧ (ss = [] ∨ ∃ b off, a = some ⟨b, off, none⟩ ∧ b < B ∧ ∀ i, i < ss.length → w.cell? ⟨b, off + i, none⟩ = some (.string (str (ss.getD i []))))

theorem CameS.below {B : Nat} {w w' : World} {a : Option Addr} {l : List (List Nat)} (h : CameS B w a l) (hb : Below B w w') : CameS B w' a l :=
  ⟨h.1, h.2.elim .inl fun ⟨b, off, e, hlt, hc⟩ => .inr ⟨b, off, e, hlt, fun i hi => (hb.cell (p := ⟨b, off + i, none⟩) hlt).trans (hc i hi)⟩⟩

theorem CameS.at {B : Nat} {w : World} {a : Option Addr} {l : List (List Nat)} (h : CameS B w a l) {i : Nat} (hi : i < l.length) : ∃ b off, a = some ⟨b, off, none⟩ ∧ w.cell? ⟨b, off + i, none⟩ = some (.string (str (l.getD i []))) := by
  rcases h.2 with rfl | ⟨b, off, e, hlt, hc⟩
  · simp at hi
  · exact ⟨b, off, e, hc i hi⟩

theorem takeS_snoc (l : List (List Nat)) (k : Nat) (h : k < l.length) : l.take (k + 1) = l.take k ++ [l.getD k []] := by
  rw [List.take_succ_eq_append_getElem h]; simp [List.getD, h]

theorem getD_memS {l : List (List Nat)} {k : Nat} (h : k < l.length) : l.getD k [] ∈ l := by
  have : l.getD k [] = l[k] := by simp [List.getD, h]
  rw [this]; exact List.getElem_mem h
end Go.By
namespace Go.Proofs.Ytaichjkenfnkbaa
open Go.RowKit Go.By
set_option linter.unusedVariables false

/-- What the call texts yields: the texts' bytes, if it takes them. -/
def Told (ss : List (List Nat)) (w : World) (e : Ending) (w' : World) : Prop :=
  ∃ s ok, e = .returned (.tuple #[.string (str s), .bool ok]) ∧ Below w.heap.size w w' ∧ (ok = true → s = Vary.all ss ∧ (∀ x ∈ ss, x.length ≤ 200) ∧ ss.length ≤ 100)

set_option maxHeartbeats 1000000 in
set_option maxRecDepth 20000 in
theorem texts_any (a : Option Addr) (ss : List (List Nat)) (cap : Nat) (w : World) (hL : CameS w.heap.size w a ss) (hm : ss.length ≤ 9223372036854775807) :
    Calls Try.prog 26 #[.slice a ss.length cap] w fun e w' => Told ss w e w' := by
  have HL := hide hL
  clear hL
  go_enter Try.func26, Try.ntmps26
  go_wp2_with fail
  go_loopw [4, 9] (fun x y wr => ∃ (i : Nat) (p : Option Addr) (c : Nat), i ≤ ss.length ∧ x = .slice p (Vary.all (ss.take i)).length c ∧ y = .int .i64 i ∧ Below w.heap.size w wr ∧ Lies wr p (Vary.all (ss.take i)) ∧ (p = none → Vary.all (ss.take i) = [] ∧ c = 0) ∧ (∀ s ∈ ss.take i, s.length ≤ 200) ∧ Hid (i = 0 ∨ ss.length ≤ 100)) (fun _ y _ => ss.length - (intOf y).toNat)
  case atStart => exact ⟨0, none, 0, by omega, rfl, rfl, Below.refl _ _, ⟨by simp [Vary.all], .inl rfl⟩, fun _ => ⟨rfl, rfl⟩, by simp, hide (.inl rfl)⟩
  case round =>
    obtain ⟨i, p, c, hi, rfl, rfl, hbel, hli, hnil, hall, HCN⟩ := hrel
    have HB := hide hbel
    have HLI := hide hli
    have HNL := hide hnil
    have HAL := hide hall
    clear hbel hli hnil hall
    by_cases hlt : i < ss.length
    · obtain ⟨b, off, rfl, hck⟩ := (HL.out.below HB.out).at hlt
      have HSN := hide (takeS_snoc ss i hlt)
      have HSM : Hid (∀ c ∈ ss.getD i [], c < 256) := HL.out.1 _ (getD_memS hlt)
      generalize ss.getD i [] = s at *
      have hsz := str_size s
      by_cases hbig : 100 < ss.length
      · go_wp2
        go_ret2
        exact ⟨[], false, rfl, HB.out, by simp⟩
      · by_cases hlong : 200 < s.length
        · go_wp2
          go_ret2
          exact ⟨[], false, rfl, HB.out, by simp⟩
        · have HLN : Hid ((Vary.all (ss.take i)).length ≤ 20000) := by
            have := Vary.all_length HAL.out
            show (Vary.all (ss.take i)).length ≤ 20000
            simp at this
            omega
          go_wp2_with fail
          refine (puts_at (putT_any (str s) p (Vary.all (ss.take i)) c wr HLI.out.came HNL.out HLN.out (by rw [hsz]; omega)) rfl).mono ?_
          rintro e w1 ⟨p1, c1, rfl, h1, h2, h3, h4, h5⟩
          have HE : Hid (Vary.all (ss.take i) ++ Vary.putT (nums (str s)) = Vary.all (ss.take (i + 1))) := by
            show _ = _
            rw [HSN.out, Vary.all_append, nums_str HSM.out]
            simp [Vary.all]
          rw [HE.out] at h1 h2 h3
          have H1 := hide h1
          have H2 := hide h2
          have HB1 := hide (HB.out.trans (h5.mono HB.out.size))
          rw [HE.out]
          clear h1 h2 h3 h4 h5
          go_wp2
          go_roundw
          case rel =>
            refine ⟨i + 1, p1, c1, by omega, rfl, by go_num, HB1.out, H1.out, H2.out, ?_, hide (.inr (by omega))⟩
            rw [HSN.out]
            intro x hx
            rcases List.mem_append.1 hx with hx | hx
            · exact HAL.out x hx
            · simp at hx; subst hx; omega
          case measure => simp [intOf]; omega
    · have hin : i = ss.length := by omega
      subst hin
      rw [List.take_length] at *
      have hcv := run_str (P := Try.prog) 22 5 9 Try.underlying22 Try.underlying5 Try.underlying9 HLI.out (Vary.all ss).length c rfl
      go_wp2
      go_ret2
      exact ⟨Vary.all ss, true, rfl, HB.out, fun _ => ⟨rfl, HAL.out, by have := HCN.out; omega⟩⟩
end Go.Proofs.Ytaichjkenfnkbaa
