/- compose's law ComposeAll: many edits as one. -/
import Derived.Test.YtpmijaplkbmbiaaWX
import Derived.Test.YtpmijaplkbmbiaaWS
import Derived.Test.YtpmijaplkbmbiaaWR
import Derived.Test.YtpmijaplkbmbiaaV2
namespace Go.Proofs.Ytpmijaplkbmbiaa.E
open Go.Proofs.Ytpmijaplkbmbiaa Go.RowKit Go.By Go.Shelf
set_option linter.unusedVariables false
set_option linter.unusedSimpArgs false

theorem runs_cell2 {H : Type} {enc : TypeId × Value → H} {W : World} {x : Addr} {n : Nat} {cs : List Value} {y : DataW H × List MemPlace}
    (h1 : W.cells? 0 x 1 = some cs) (h2 : DataW.trod enc Try.prog W 0 (fun _ => true) true n 77 cs = some y) : ∃ q : Ln, (W.cell? x = some (.slice q.1.1 q.2.length q.1.2) ∧ CameR W.heap.size W q.1.1 q.2) ∧ q.2.length ≤ q.1.2 := by
  obtain ⟨_, hlen, hcell⟩ := World.cells?_some h1
  have hx := hcell 0 (by omega)
  match cs, hlen with
  | [v], _ =>
    obtain ⟨d, p⟩ := y
    have key : ∀ (a : Option Addr) (l c : Nat), v = .slice a l c → ∃ q : Ln, (W.cell? x = some (.slice q.1.1 q.2.length q.1.2) ∧ CameR W.heap.size W q.1.1 q.2) ∧ q.2.length ≤ q.1.2 := fun a l c e => by
      subst e
      have hcap : l ≤ c := came_cap (H := H) (enc := enc) (W := W) (a := a) (len := l) (cap := c) (d := d) (p := p) ⟨n, h2⟩
      obtain ⟨rs, rfl, hr, _⟩ := came_runs (H := H) (enc := enc) (W := W) (a := a) (len := l) (cap := c) (d := d) (p := p) ⟨n, h2⟩
      refine ⟨((a, c), rs), ⟨?_, hr⟩, hcap⟩
      simpa [Addr.add] using hx
    rcases Deep.open_slice Try.underlying77 h2 with ⟨hcs, _⟩ | ⟨z, l, c, m, n', D, Pl, hcs, r⟩
    · injection hcs with e _
      exact key _ _ _ e
    · injection hcs with e _
      exact key _ _ _ e
theorem came_listsC {H : Type} {enc : TypeId × Value → H} {W : World} {a : Option Addr} {len cap : Nat} {d : DataW H} {p : List MemPlace} (h : DataW.Trod enc Try.prog W 0 (fun _ => true) true 101 (.slice a len cap) d p) :
    ∃ ls : List Ln, ls.length = len ∧ CameL W.heap.size W a ls ∧ (∀ x ∈ ls, x.2.length ≤ x.1.2) ∧ len ≤ cap := by
  obtain ⟨fuel, hf⟩ := h
  rcases Deep.open_slice Try.underlying101 hf with ⟨hcs, _⟩ | ⟨x, l, c, m, n, D, Pl, hcs, h2, hl, hm, hmm, h3, hx⟩
  · simp [Value.cells] at hcs
    obtain ⟨rfl, rfl, rfl⟩ := hcs
    exact ⟨[], rfl, .inl rfl, fun x hx => (by cases hx), Nat.le_refl _⟩
  · simp [Value.cells] at hcs
    obtain ⟨rfl, rfl, rfl⟩ := hcs
    simp only [if_true] at hmm
    subst hmm
    have ce : Try.prog.cellsOf 77 = 1 := by kernel_rfl
    have each : ∀ i, i < m → ∃ q : Ln, (W.cell? (x.add i) = some (.slice q.1.1 q.2.length q.1.2) ∧ CameR W.heap.size W q.1.1 q.2) ∧ q.2.length ≤ q.1.2 := by
      intro i hi
      obtain ⟨cs', h1, h2⟩ := hx i hi
      rw [ce, Nat.mul_one] at h1
      exact runs_cell2 h1 h2
    have inh : Inhabited Ln := ⟨((none, 0), [])⟩
    obtain ⟨q, hq⟩ := Deep.choose_lt each
    refine ⟨(List.range len).map q, by simp, ?_, fun y hy => ?_, hl⟩
    · by_cases h0 : len = 0
      · left; simp [h0]
      · right
        obtain ⟨b, off, spot⟩ := x
        have hc := (hq 0 (by omega)).1.1
        have hspot : spot = none := by simpa [Addr.add] using World.cell?_spot hc
        subst hspot
        refine ⟨b, off, rfl, World.block_lt_of_cell? W _ hc, fun i y hy => ?_⟩
        have hi : i < len := by have := (List.getElem?_eq_some_iff.1 hy).1; simpa using this
        have e : y = q i := by simpa [hi] using hy.symm
        subst e
        obtain ⟨⟨h1, h2⟩, _⟩ := hq i (by omega)
        rw [Addr.add_lit] at h1
        exact ⟨h1, h2⟩
    · obtain ⟨i, hi, rfl⟩ := List.mem_map.1 hy
      have hi' : i < len := List.mem_range.1 hi
      exact (hq i (by omega)).2

/-- Edits, one behind the other, as one. -/
def allGo (acc : List Rn) : List Ln → List Rn × Int
  | [] => (acc, 0)
  | x :: xs => if twoE acc x.2 = 0 then allGo (twoO acc x.2) xs else ([], twoE acc x.2)
def allR (n : Int) (ls : List Ln) : List Rn × Int := if n < 0 ∨ 16777216 < n then ([], 2) else allGo (nothR n) ls
/-- An edit of few bytes, of few. -/
def OkA (acc : List Rn) : Prop := isG acc = true ∧ (expand acc).length ≤ 6000 ∧ tIn (expand acc) ≤ 3000 ∧ acc.length ≤ 100000
theorem okA_noth {n : Int} (h0 : ¬ n < 0) (h1 : n ≤ 3000) : OkA (nothR n) := by
  obtain ⟨m, rfl⟩ := Int.eq_ofNat_of_zero_le (by omega : 0 ≤ n)
  obtain ⟨g, e, l⟩ := noth_facts (n := m) (by omega)
  refine ⟨g, by rw [e, List.length_replicate]; omega, by rw [e, tIn_K]; omega, by omega⟩
theorem okA_len {acc x : List Rn} (h : OkA acc) (hf : fewR x = true) (hfit : fit2 acc x = true) : (expand acc).length + (expand x).length ≤ 60000 := by
  have := ((fewR_light hf).2.2 (fit2_facts hfit).2.1).2.2
  have := h.2.1
  omega
theorem okA_next {acc x : List Rn} (h : OkA acc) (hf : fewR x = true) (he : twoE acc x = 0) : OkA (twoO acc x) := by
  have hfit : fit2 acc x = true := by
    cases hq : fit2 acc x with
    | true => rfl
    | false => rw [twoE, hq] at he; cases he
  have hl := okA_len h hf hfit
  obtain ⟨_, _, g, s1, s2, e, l⟩ := two_ok hfit hl
  obtain ⟨j, e2, _⟩ := good_facts (fit2_facts hfit).2.1
  have ho := ((fewR_light hf).2.2 (fit2_facts hfit).2.1).2.1
  rw [e2] at ho
  have ho' : ((tOut (expand x) : Nat) : Int) ≤ 3000 := ho
  have h3 := h.2.2.1
  refine ⟨g, ?_, by rw [e, tIn_normT, s1]; exact h3, by omega⟩
  have := tok_len (expand (twoO acc x))
  rw [e, tIn_normT, tOut_normT, s1, s2] at this
  rw [e]
  omega
theorem all_yes {acc : List Rn} {ls : List Ln} {k : Nat} {x : Ln} (h : ls[k]? = some x) (he : twoE acc x.2 = 0) : allGo acc (ls.drop k) = allGo (twoO acc x.2) (ls.drop (k + 1)) := by
  obtain ⟨hl, rfl⟩ := List.getElem?_eq_some_iff.1 h
  rw [List.drop_eq_getElem_cons hl, allGo, if_pos he]
theorem all_no {acc : List Rn} {ls : List Ln} {k : Nat} {x : Ln} (h : ls[k]? = some x) (he : ¬ twoE acc x.2 = 0) : allGo acc (ls.drop k) = ([], twoE acc x.2) := by
  obtain ⟨hl, rfl⟩ := List.getElem?_eq_some_iff.1 h
  rw [List.drop_eq_getElem_cons hl, allGo, if_neg he]

set_option maxRecDepth 100000 in
set_option maxHeartbeats 4000000 in
theorem all_any (n : Int) (a : Option Addr) (cap : Nat) (ls : List Ln) (w : World) (hS : CameL w.heap.size w a ls) (hcp : ∀ x ∈ ls, x.2.length ≤ x.1.2) (hfw : ∀ x ∈ ls, fewR x.2 = true) (hn : n ≤ 3000 ∨ 16777216 < n) (hl : ls.length ≤ 20) :
    Calls Try.prog 84 #[.int .i64 n, .slice a ls.length cap] w fun e W' => Gives2 w.heap.size w (allR n ls).1 (allR n ls).2 e W' := by
  have HS := hide hS
  have HX := hide (And.intro hcp hfw)
  clear hS hcp hfw
  go_enter Try.func84, Try.ntmps84
  by_cases h0 : n < 0
  · have HA : Hid (allR n ls = ([], 2)) := hide (by rw [allR, if_pos (.inl h0)])
    go_wp2
    go_ret2
    rw [HA.out]
    exact ⟨none, 0, rfl, .inl rfl, Below.refl _ _⟩
  by_cases h2 : 16777216 < n
  · have HA : Hid (allR n ls = ([], 2)) := hide (by rw [allR, if_pos (.inr h2)])
    go_wp2
    go_ret2
    rw [HA.out]
    exact ⟨none, 0, rfl, .inl rfl, Below.refl _ _⟩
  have HA : Hid (allR n ls = allGo (nothR n) ls) := hide (by rw [allR, if_neg (by omega)])
  have HOK := hide (okA_noth h0 (by omega))
  clear hn
  go_wp2_with (go_at_call 67; (with_reducible refine (nothing_cap n w).mono ?_); rintro e W1 ⟨a1, c1, rfl, hc, hcp, hb⟩; have HC1 := hide hc; have HP1 := hide hcp; have HB1 := hide hb; clear hc hcp hb)
  go_loopw [6, 20] (fun u i wr => ∃ (k : Nat) (acc : List Rn) (ua : Option Addr) (uc : Nat), k ≤ ls.length ∧ i = .int .i64 (k : Int) ∧ u = .slice ua acc.length uc ∧ Hid (CameR wr.heap.size wr ua acc ∧ acc.length ≤ uc ∧ Below w.heap.size w wr ∧ OkA acc ∧ allGo (nothR n) ls = allGo acc (ls.drop k))) (fun _ i _ => ls.length - (intOf i).toNat)
  case atStart => exact ⟨0, nothR n, a1, c1, Nat.zero_le _, rfl, rfl, hide ⟨HC1.out, HP1.out, HB1.out, HOK.out, rfl⟩⟩
  case round =>
    obtain ⟨k, acc, ua, uc, hk, rfl, rfl, HI⟩ := hrel
    by_cases hlt : k < ls.length
    · have hlt' : (k : Int) < (ls.length : Int) := by omega
      obtain ⟨x, hxk⟩ : ∃ x, ls[k]? = some x := ⟨ls[k], List.getElem?_eq_getElem hlt⟩
      obtain ⟨b, off, rfl, hbl, hcell⟩ : ∃ b off, a = some ⟨b, off, none⟩ ∧ b < w.heap.size ∧ ∀ i x, ls[i]? = some x → wr.cell? ⟨b, off + i, none⟩ = some (.slice x.1.1 x.2.length x.1.2) ∧ CameR w.heap.size wr x.1.1 x.2 := by
        rcases HS.out.below HI.out.2.2.1 with rfl | h
        · simp at hlt
        · exact h
      obtain ⟨s0, hr⟩ := hcell k x hxk
      have hfx := HX.out.2 x (List.mem_of_getElem? hxk)
      have hcx := HX.out.1 x (List.mem_of_getElem? hxk)
      have htw := two_any ua x.1.1 uc x.1.2 acc x.2 wr HI.out.1 (hr.mono HI.out.2.2.1.size) HI.out.2.1 hcx (by have := HI.out.2.2.2.1.2.2.2; omega) (by have := (fewR_light hfx).2.1; omega) (fun h => Nat.le_trans (okA_len HI.out.2.2.2.1 hfx h) (by omega))
      have w6 : IntKind.i64.wrap ((k : Int) + 1) = (k : Int) + 1 := by rw [IntKind.wrap_i64]; omega
      have HNX : Hid (twoE acc x.2 = 0 → OkA (twoO acc x.2) ∧ allGo (nothR n) ls = allGo (twoO acc x.2) (ls.drop (k + 1))) := hide fun he => ⟨okA_next HI.out.2.2.2.1 hfx he, HI.out.2.2.2.2.trans (all_yes hxk he)⟩
      have HNO : Hid (¬ twoE acc x.2 = 0 → allGo (nothR n) ls = ([], twoE acc x.2)) := hide fun he => HI.out.2.2.2.2.trans (all_no hxk he)
      have HLT := hide hlt
      have HBW := hide HI.out.2.2.1
      obtain ⟨⟨xa, xc⟩, xr⟩ := x
      dsimp only at s0 htw HNX HNO
      have HTW := hide htw
      clear hcell hr hxk hfx hcx htw HI hlt
      generalize twoE acc xr = z at *
      generalize twoO acc xr = acc' at *
      by_cases hz : z = 0
      · obtain ⟨o1, o2⟩ := HNX.out hz
        have HO := hide (And.intro o1 o2)
        subst hz
        clear o1 o2
        go_wp2_with (go_at_call 82; (with_reducible refine HTW.out.mono ?_); rintro e W2 ⟨a2, c2, rfl, hc, hcp, hb⟩; have HC2 := hide hc; have HP2 := hide hcp; have HB2 := hide (HBW.out.trans (hb.mono HBW.out.size)); clear hc hcp hb)
        go_roundw
        case rel => exact ⟨k + 1, acc', a2, c2, by have := HLT.out; omega, by go_num, rfl, hide ⟨HC2.out, HP2.out, HB2.out, HO.out.1, HO.out.2⟩⟩
        case measure => simp [intOf]; have := HLT.out; omega
      · have HO := hide (HNO.out hz)
        go_wp2_with (go_at_call 82; (with_reducible refine HTW.out.mono ?_); rintro e W2 ⟨a2, c2, rfl, hc, hcp, hb⟩; have HB2 := hide (HBW.out.trans (hb.mono HBW.out.size)); clear hc hcp hb)
        go_ret2
        rw [HA.out, HO.out]
        exact ⟨none, 0, rfl, .inl rfl, HB2.out⟩
    · obtain rfl : k = ls.length := by omega
      have HE := hide (HI.out.2.2.2.2.trans (by rw [List.drop_length]; rfl : allGo acc (ls.drop ls.length) = (acc, 0)))
      go_wp2
      go_ret2
      rw [HA.out, HE.out]
      exact ⟨ua, uc, rfl, HI.out.1, HI.out.2.2.1⟩

end Go.Proofs.Ytpmijaplkbmbiaa.E
