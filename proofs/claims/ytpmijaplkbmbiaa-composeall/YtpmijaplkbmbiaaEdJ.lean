/- strings.Join with nothing between the texts. -/
import Derived.Test.YtpmijaplkbmbiaaBetween
namespace Go.Proofs.Ytpmijaplkbmbiaa.E
open Go.Proofs.Ytpmijaplkbmbiaa Go.RowKit Go.By Go.Shelf
set_option linter.unusedVariables false

/-- Texts, as they lie. -/
def CameS (n₀ : Nat) (W : World) (a : Option Addr) (xs : List ByteArray) : Prop := xs = [] ∨ ∃ b off, a = some ⟨b, off, none⟩ ∧ b < n₀ ∧ ∀ i x, xs[i]? = some x → W.cell? ⟨b, off + i, none⟩ = some (.string x)

theorem take_snocJ {xs : List ByteArray} {k : Nat} {x : ByteArray} (h : xs[k]? = some x) : xs.take (k + 1) = xs.take k ++ [x] := by
  have hk : k < xs.length := (List.getElem?_eq_some_iff.1 h).1
  rw [List.take_succ_eq_append_getElem hk, (List.getElem?_eq_some_iff.1 h).2]

theorem tot_takeJ (xs : List ByteArray) (k : Nat) : tot (xs.take k) ≤ tot xs := by
  have := congrArg tot (List.take_append_drop k xs)
  rw [tot_append] at this
  omega

theorem text_snocJ (a : List ByteArray) (x : ByteArray) : text (a ++ [x]) = text a ++ x.data.toList := by rw [text_append]; simp [text]

set_option maxRecDepth 20000 in
set_option maxHeartbeats 4000000 in
theorem join_none (a : Option Addr) (cap : Nat) (w : World) :
    Calls Try.prog 134 #[.slice a 0 cap, .string ⟨#[]⟩] w fun e w' => e = .returned (.string ⟨#[]⟩) ∧ w' = w := by
  go_enter Try.func134, Try.ntmps134
  go_wp2
  go_ret
  exact ⟨rfl, rfl⟩

set_option maxRecDepth 20000 in
set_option maxHeartbeats 4000000 in
theorem join_one (b off cap : Nat) (x : ByteArray) (w : World) (h : w.cell? ⟨b, off, none⟩ = some (.string x)) :
    Calls Try.prog 134 #[.slice (some ⟨b, off, none⟩) 1 cap, .string ⟨#[]⟩] w fun e w' => e = .returned (.string x) ∧ w' = w := by
  go_enter Try.func134, Try.ntmps134
  go_wp2
  go_ret
  exact ⟨rfl, rfl⟩

set_option maxRecDepth 100000 in
set_option maxHeartbeats 8000000 in
theorem join_many (b off cap : Nat) (xs : List ByteArray) (w : World) (hc : ∀ i x, xs[i]? = some x → w.cell? ⟨b, off + i, none⟩ = some (.string x)) (hb : b < w.heap.size)
    (h2 : 2 ≤ xs.length) (hl : xs.length ≤ 1000000) (hcap : xs.length ≤ cap) (ht : tot xs ≤ 100000000) :
    Calls Try.prog 134 #[.slice (some ⟨b, off, none⟩) xs.length cap, .string ⟨#[]⟩] w fun e w' => e = .returned (.string ⟨(text xs).toArray⟩) ∧ Below w.heap.size w w' := by
  have HC := hide hc
  clear hc
  have hne0 : ((xs.length : Int) == 0) = false := beq_eq_false_iff_ne.2 (by omega)
  have hne1 : ((xs.length : Int) == 1) = false := beq_eq_false_iff_ne.2 (by omega)
  obtain ⟨x0, hx0⟩ : ∃ x, xs[0]? = some x := ⟨xs[0], List.getElem?_eq_getElem (by omega)⟩
  have HX0 := hide hx0
  clear hx0
  go_enter Try.func134, Try.ntmps134
  go_wp2_with fail
  go_loop [5, 41] (fun n i => ∃ k : Nat, k ≤ xs.length ∧ i = .int .i64 k ∧ n = .int .i64 ((tot (xs.take k) : Nat) : Int)) (fun _ i => xs.length - (intOf i).toNat)
  case atStart => exact ⟨0, Nat.zero_le _, rfl, rfl⟩
  case round =>
    obtain ⟨k, hk, rfl, rfl⟩ := hrel
    by_cases hkn : k < xs.length
    · obtain ⟨x, hx⟩ : ∃ x, xs[k]? = some x := ⟨xs[k], List.getElem?_eq_getElem hkn⟩
      have hcx := HC.out k x hx
      have e1 : tot (xs.take (k + 1)) = tot (xs.take k) + x.size := by rw [take_snocJ hx, tot_append]; simp [tot]
      have e2 := tot_takeJ xs (k + 1)
      generalize hA1 : tot (xs.take (k + 1)) = A1 at e1 e2
      generalize tot (xs.take k) = A0 at e1
      have HA1 := hide hA1
      clear hA1 hx
      go_wp2
      exact ⟨⟨k + 1, by omega, by go_num, by rw [HA1.out]; refine congrArg _ ?_; omega⟩, by simp [intOf]; omega⟩
    · obtain rfl : k = xs.length := by omega
      rw [List.take_length]
      have hc0 : w.cell? ⟨b, off, none⟩ = some (.string x0) := HC.out 0 x0 HX0.out
      have hx0s : x0.size ≤ tot xs := by
        have := tot_takeJ xs 1
        rw [show 1 = 0 + 1 from rfl, take_snocJ HX0.out] at this
        simpa [tot] using this
      go_wp2_with fail
      refine (Try.Builder_Grow_fresh w.heap.size w.heap.size (tot xs) _ (Nat.le_refl _) (World.alloc_heap_new w _) (by simp) (by omega)).mono ?_
      rintro e w1 ⟨rfl, h1, hb1⟩
      have hb1' : Below w.heap.size w w1 := ((Below.refl w.heap.size w).alloc (Nat.le_refl _) _).trans hb1
      have hc1 : w1.cell? ⟨b, off, none⟩ = some (.string x0) := (hb1'.cell (p := ⟨b, off, none⟩) hb).trans hc0
      have H1 : Hid (Lib.IsBuilderF 140 5 w.heap.size w.heap.size [] w1) := .inr (Lib.BuilderAtF.of h1)
      have Hb1 := hide hb1'
      have hBw1 : w.heap.size ≤ w1.heap.size := hb1'.size
      clear h1 hb1 hb1'
      go_wp2_with fail
      refine (writeString w.heap.size w.heap.size [] x0 w1 H1.out (by simp; omega) hBw1).mono ?_
      rintro e w2 ⟨rfl, h2', hb2, _⟩
      have hstart : ([] : List Value) ++ Lib.strCells x0 = Lib.byteCells (text (xs.take (0 + 1))) := by
        rw [take_snocJ HX0.out]; simp [text, Lib.strCells_eq]
      rw [hstart] at h2'
      have H2 : Hid (Lib.IsBuilderF 140 5 w.heap.size w.heap.size (Lib.byteCells (text (xs.take (0 + 1)))) w2) := .inr h2'
      have Hb2 := hide (Hb1.out.trans hb2)
      clear h2' hb2 hstart
      go_wp2_with fail
      go_loopw [65] (fun i wr => ∃ k : Nat, k + 1 ≤ xs.length ∧ i = .int .i64 k ∧ Hid (Lib.IsBuilderF 140 5 w.heap.size w.heap.size (Lib.byteCells (text (xs.take (k + 1)))) wr) ∧ Hid (Below w.heap.size w wr)) (fun i _ => xs.length - (intOf i).toNat)
      case atStart => exact ⟨0, by omega, rfl, H2, Hb2⟩
      case round =>
        obtain ⟨k, hk', rfl, HB, HW⟩ := hrel
        by_cases hkr : k + 1 < xs.length
        · obtain ⟨y, hy⟩ : ∃ y, xs[k + 1]? = some y := ⟨xs[k + 1], List.getElem?_eq_getElem hkr⟩
          have hcy : wr.cell? ⟨b, off + 1 + k, none⟩ = some (.string y) := by
            rw [HW.out.cell (p := ⟨b, off + 1 + k, none⟩) hb, show off + 1 + k = off + (k + 1) by omega]
            exact HC.out (k + 1) y hy
          have hBw : w.heap.size ≤ wr.heap.size := HW.out.size
          have hnext : Lib.byteCells (text (xs.take (k + 1))) ++ Lib.strCells ⟨#[]⟩ ++ Lib.strCells y = Lib.byteCells (text (xs.take (k + 1 + 1))) := by
            rw [take_snocJ hy, text_snocJ, Lib.byteCells_append, Lib.strCells_eq, Lib.strCells_eq]; simp; rfl
          have hl0 : (Lib.byteCells (text (xs.take (k + 1)))).length + y.size ≤ 100000000 := by
            rw [Lib.byteCells_length, length_text]
            have := tot_takeJ xs (k + 1 + 1)
            rw [take_snocJ hy, tot_append] at this
            simp [tot] at this
            omega
          have hkr' : (k : Int) < (xs.length : Int) - 1 := by omega
          have Hn := hide hnext
          have HZ : Hid ((⟨#[]⟩ : ByteArray).size = 0) := hide rfl
          clear hnext hy
          go_wp2_with fail
          refine (writeString w.heap.size w.heap.size _ ⟨#[]⟩ wr HB.out (by have := HZ.out; omega) hBw).mono ?_
          rintro e w3 ⟨rfl, h3, hb3, _⟩
          have hBw3 : w.heap.size ≤ w3.heap.size := Nat.le_trans hBw hb3.size
          have H3 := hide h3
          have Hb3 := hide hb3
          clear h3 hb3
          go_wp2_with fail
          refine (writeString w.heap.size w.heap.size _ y w3 (Or.inr H3.out) (by rw [List.length_append, Lib.strCells_length, HZ.out]; omega) hBw3).mono ?_
          rintro e w4 ⟨rfl, h4, hb4, _⟩
          rw [Hn.out] at h4
          have H4 : Hid (Lib.IsBuilderF 140 5 w.heap.size w.heap.size (Lib.byteCells (text (xs.take (k + 1 + 1)))) w4) := .inr h4
          have Hb4 := hide ((HW.out.trans Hb3.out).trans hb4)
          clear h4 hb4
          go_wp2
          exact ⟨⟨k + 1, by omega, by go_num, H4, Hb4⟩, by simp [intOf]; omega⟩
        · obtain hke : k + 1 = xs.length := by omega
          have hB' := HB.out
          rw [hke, List.take_length] at hB'
          have hBw : w.heap.size ≤ wr.heap.size := HW.out.size
          have hkr' : ¬ (k : Int) < (xs.length : Int) - 1 := by omega
          go_wp2_with fail
          refine (Try.Builder_String_any_k w.heap.size w.heap.size _ wr hB' hBw).mono ?_
          rintro e w5 ⟨rfl, _, hb5, _⟩
          have Hb5 := hide (HW.out.trans hb5)
          clear hb5 hB'
          go_wp2
          go_ret
          exact ⟨rfl, Hb5.out⟩

theorem join_any (a : Option Addr) (cap : Nat) (xs : List ByteArray) (w : World) (h : CameS w.heap.size w a xs) (hl : xs.length ≤ 1000000) (hcap : xs.length ≤ cap) (ht : tot xs ≤ 100000000) :
    Calls Try.prog 134 #[.slice a xs.length cap, .string ⟨#[]⟩] w fun e w' => e = .returned (.string ⟨(text xs).toArray⟩) ∧ Below w.heap.size w w' := by
  rcases h with rfl | ⟨b, off, rfl, hb, hc⟩
  · exact (join_none a cap w).mono fun e w' ⟨he, hw⟩ => ⟨he, hw ▸ Below.refl _ _⟩
  · match xs, hc, hl, hcap, ht with
    | [], _, _, _, _ => exact (join_none _ cap w).mono fun e w' ⟨he, hw⟩ => ⟨he, hw ▸ Below.refl _ _⟩
    | [x], hc, _, _, _ => exact (join_one b off cap x w (hc 0 x rfl)).mono fun e w' ⟨he, hw⟩ => ⟨by rw [he]; simp [text], hw ▸ Below.refl _ _⟩
    | x :: y :: r, hc, hl, hcap, ht => exact join_many b off cap (x :: y :: r) w hc hb (by simp) hl hcap ht

end Go.Proofs.Ytpmijaplkbmbiaa.E
