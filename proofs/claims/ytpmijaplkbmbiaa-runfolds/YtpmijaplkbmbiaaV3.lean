/- Edits, one behind the other. -/
import Derived.Test.YtpmijaplkbmbiaaV1
import Derived.Test.YtpmijaplkbmbiaaV2
namespace Go.Proofs.Ytpmijaplkbmbiaa.E
open Go.Proofs.Ytpmijaplkbmbiaa Go.RowKit Go.By Go.Shelf
set_option linter.unusedVariables false
set_option linter.unusedSimpArgs false

theorem CameL.mono {n₀ n₁ : Nat} {W : World} {a : Option Addr} {ls : List Ln} (h : CameL n₀ W a ls) (hn : n₀ ≤ n₁) : CameL n₁ W a ls :=
  h.imp id fun ⟨b, off, e, hl, hc⟩ => ⟨b, off, e, Nat.lt_of_lt_of_le hl hn, fun i x hx => ⟨(hc i x hx).1, (hc i x hx).2.mono hn⟩⟩
theorem came_upL {W W' : World} {a : Option Addr} {ls : List Ln} (h : CameL W.heap.size W a ls) (hb : Below W.heap.size W W') : CameL W'.heap.size W' a ls := (h.below hb).mono hb.size

/-- What edits make, one behind the other; 60: one does not fit. -/
def foldR : List Ln → ByteArray → ByteArray × Int
  | [], s => (s, 0)
  | x :: ls, s => if fitsR x.2 (s.size : Int) = true then foldR ls (outB s x.2) else (⟨#[]⟩, 60)
def foldV (ls : List Ln) (s : ByteArray) : Value := .tuple #[.string (foldR ls s).1, .int .i64 (foldR ls s).2]
theorem fold_yes {ls : List Ln} {s : ByteArray} {k : Nat} {x : Ln} (h : ls[k]? = some x) (hf : fitsR x.2 (s.size : Int) = true) : foldR (ls.drop k) s = foldR (ls.drop (k + 1)) (outB s x.2) := by
  have hk : k < ls.length := (List.getElem?_eq_some_iff.1 h).1
  rw [List.drop_eq_getElem_cons hk, (List.getElem?_eq_some_iff.1 h).2, foldR, if_pos hf]
theorem fold_no {ls : List Ln} {s : ByteArray} {k : Nat} {x : Ln} (h : ls[k]? = some x) (hf : fitsR x.2 (s.size : Int) = false) : foldR (ls.drop k) s = (⟨#[]⟩, 60) := by
  have hk : k < ls.length := (List.getElem?_eq_some_iff.1 h).1
  rw [List.drop_eq_getElem_cons hk, (List.getElem?_eq_some_iff.1 h).2, foldR, hf]; rfl
theorem fold_end {ls : List Ln} {s : ByteArray} : foldR (ls.drop ls.length) s = (s, 0) := by rw [List.drop_length, foldR]

set_option maxRecDepth 100000 in
set_option maxHeartbeats 8000000 in
theorem fold_any (a : Option Addr) (cap : Nat) (ls : List Ln) (s : ByteArray) (w : World) (hS : CameL w.heap.size w a ls) (hl : ls.length ≤ 1000000) (hx : ∀ x ∈ ls, x.2.length ≤ 1000000) :
    Calls Try.prog 78 #[.slice a ls.length cap, .string s] w fun e W' => e = .returned (foldV ls s) ∧ Below w.heap.size w W' := by
  have HS := hide hS
  have HX := hide hx
  clear hS hx
  go_enter Try.func78, Try.ntmps78
  go_wp2_with fail
  go_loopw [1, 11] (fun t i wr => ∃ (k : Nat) (u : ByteArray), k ≤ ls.length ∧ i = .int .i64 (k : Int) ∧ t = .string u ∧ Hid (foldR ls s = foldR (ls.drop k) u ∧ Below w.heap.size w wr)) (fun _ i _ => ls.length - (intOf i).toNat)
  case atStart => exact ⟨0, s, Nat.zero_le _, rfl, rfl, hide ⟨rfl, Below.refl _ _⟩⟩
  case round =>
    obtain ⟨k, u, hk, rfl, rfl, HI⟩ := hrel
    by_cases hlt : k < ls.length
    · have hlt' : (k : Int) < (ls.length : Int) := by omega
      obtain ⟨x, hxk⟩ : ∃ x, ls[k]? = some x := ⟨ls[k], List.getElem?_eq_getElem hlt⟩
      obtain ⟨b, off, rfl, hbl, hcell⟩ : ∃ b off, a = some ⟨b, off, none⟩ ∧ b < w.heap.size ∧ _ := by
        rcases HS.out.below HI.out.2 with rfl | h
        · simp at hlt
        · exact h
      obtain ⟨s0, hr⟩ := hcell k x hxk
      have hxl : x.2.length ≤ 1000000 := HX.out x (List.mem_of_getElem? hxk)
      have hap := apply_any x.1.1 x.1.2 x.2 u wr (hr.mono HI.out.2.size) hxl
      have w6 : IntKind.i64.wrap ((k : Int) + 1) = (k : Int) + 1 := by rw [IntKind.wrap_i64]; omega
      have HXK := hide hxk
      obtain ⟨⟨xa, xc⟩, xr⟩ := x
      dsimp only at s0 hap
      clear hcell hr hxl hxk
      cases hf : fitsR xr (u.size : Int) with
      | true =>
        have HV : Hid (applyV xr u = .tuple #[.string (outB u xr), .int .i64 0]) := hide (by rw [applyV, if_pos hf])
        have HFO := hide (fold_yes HXK.out hf)
        clear hf
        go_wp2_with (go_at_call 70; refine hap.mono ?_; rintro e W2 ⟨rfl, hb⟩; rw [HV.out]; have HB := hide hb; clear hb hap)
        go_roundw
        case rel => exact ⟨k + 1, outB u xr, by omega, by go_num, rfl, hide ⟨HI.out.1.trans HFO.out, HI.out.2.trans (HB.out.mono HI.out.2.size)⟩⟩
        case measure => simp [intOf]; omega
      | false =>
        have HV : Hid (applyV xr u = .tuple #[.string ⟨#[]⟩, .int .i64 60]) := hide (by rw [applyV, hf]; rfl)
        have HFO := hide (fold_no HXK.out hf)
        clear hf
        go_wp2_with (go_at_call 70; refine hap.mono ?_; rintro e W2 ⟨rfl, hb⟩; rw [HV.out]; have HB := hide hb; clear hb hap)
        go_ret2
        rw [foldV, HI.out.1, HFO.out]
        exact ⟨rfl, HI.out.2.trans (HB.out.mono HI.out.2.size)⟩
    · obtain rfl : k = ls.length := by omega
      have HE := hide (HI.out.1.trans fold_end)
      go_wp2
      go_ret2
      rw [foldV, HE.out]
      exact ⟨rfl, HI.out.2⟩

set_option maxRecDepth 100000 in
set_option maxHeartbeats 8000000 in
theorem rfold_any (a : Option Addr) (cap : Nat) (ls : List Ln) (s : ByteArray) (w : World) (hS : CameL w.heap.size w a ls) (hl : ls.length ≤ 1000000) (hx : ∀ x ∈ ls, x.2.length ≤ 1000000) :
    Calls Try.prog 79 #[.slice a ls.length cap, .string s] w fun e W' => e = .returned (foldV ls s) ∧ Below w.heap.size w W' := by
  have HS := hide hS
  have HX := hide hx
  clear hS hx
  go_enter Try.func79, Try.ntmps79
  go_wp2_with fail
  go_loopw [1, 6] (fun t i wr => ∃ (k : Nat) (u : ByteArray), k ≤ ls.length ∧ i = .int .i64 (k : Int) ∧ t = .string u ∧ Hid (foldR ls s = foldR (ls.drop k) u ∧ Below w.heap.size w wr)) (fun _ i _ => ls.length - (intOf i).toNat)
  case atStart => exact ⟨0, s, Nat.zero_le _, rfl, rfl, hide ⟨rfl, Below.refl _ _⟩⟩
  case round =>
    obtain ⟨k, u, hk, rfl, rfl, HI⟩ := hrel
    by_cases hlt : k < ls.length
    · have hlt' : (k : Int) < (ls.length : Int) := by omega
      obtain ⟨x, hxk⟩ : ∃ x, ls[k]? = some x := ⟨ls[k], List.getElem?_eq_getElem hlt⟩
      obtain ⟨b, off, rfl, hbl, hcell⟩ : ∃ b off, a = some ⟨b, off, none⟩ ∧ b < w.heap.size ∧ _ := by
        rcases HS.out.below HI.out.2 with rfl | h
        · simp at hlt
        · exact h
      obtain ⟨s0, hr⟩ := hcell k x hxk
      have hxl : x.2.length ≤ 1000000 := HX.out x (List.mem_of_getElem? hxk)
      have hap := rapply_any x.1.1 x.1.2 x.2 u wr (hr.mono HI.out.2.size) hxl
      have w6 : IntKind.i64.wrap ((k : Int) + 1) = (k : Int) + 1 := by rw [IntKind.wrap_i64]; omega
      have HXK := hide hxk
      obtain ⟨⟨xa, xc⟩, xr⟩ := x
      dsimp only at s0 hap
      clear hcell hr hxl hxk
      cases hf : fitsR xr (u.size : Int) with
      | true =>
        have HV : Hid (applyV xr u = .tuple #[.string (outB u xr), .int .i64 0]) := hide (by rw [applyV, if_pos hf])
        have HFO := hide (fold_yes HXK.out hf)
        clear hf
        go_wp2_with (go_at_call 71; refine hap.mono ?_; rintro e W2 ⟨rfl, hb⟩; rw [HV.out]; have HB := hide hb; clear hb hap)
        go_roundw
        case rel => exact ⟨k + 1, outB u xr, by omega, by go_num, rfl, hide ⟨HI.out.1.trans HFO.out, HI.out.2.trans (HB.out.mono HI.out.2.size)⟩⟩
        case measure => simp [intOf]; omega
      | false =>
        have HV : Hid (applyV xr u = .tuple #[.string ⟨#[]⟩, .int .i64 60]) := hide (by rw [applyV, hf]; rfl)
        have HFO := hide (fold_no HXK.out hf)
        clear hf
        go_wp2_with (go_at_call 71; refine hap.mono ?_; rintro e W2 ⟨rfl, hb⟩; rw [HV.out]; have HB := hide hb; clear hb hap)
        go_ret2
        rw [foldV, HI.out.1, HFO.out]
        exact ⟨rfl, HI.out.2.trans (HB.out.mono HI.out.2.size)⟩
    · obtain rfl : k = ls.length := by omega
      have HE := hide (HI.out.1.trans fold_end)
      go_wp2
      go_ret2
      rw [foldV, HE.out]
      exact ⟨rfl, HI.out.2⟩

end Go.Proofs.Ytpmijaplkbmbiaa.E
