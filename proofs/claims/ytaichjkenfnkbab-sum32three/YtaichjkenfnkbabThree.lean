/- Of any three slices of bytes, the call Sum32Three returns true and writes nothing that was there. -/
import Derived.Test.YtaichjkenfnkbabRow
import Derived.Test.YtaichjkenfnkbabLives
import Derived.Test.YtaichjkenfnkbabLin
import Derived.Deep.RegionHeld3
import Derived.Deep.OwnRows
import Derived.Deep.DrawnRows
namespace Go.Proofs.Ytaichjkenfnkbab
open Go.RowKit
set_option linter.unusedVariables false
attribute [local go_sem ↓] Go.wp_at_zero Go.wp_at_succ

theorem Try.info5 : (Try.prog.info? 5).map (fun i => (i.zero, i.size, i.bytes)) = some (some (.int .u8 0), 1, 1) := by kernel_rfl

theorem slice_h (a : Option Addr) (n cap k : Nat) (h : k ≤ cap) (w : World) :
    (Instr.slice 22 (.slice a n cap) none (some (.int .i64 (k : Int))) none).run Try.prog w = .ok (.slice a k cap) w := by
  rw [run_slice_h w 22 a n cap (by exact Try.underlying22) .i64 k (by omega) (by omega)]
  have hs : (sizeOf (Try.prog.elem 22)).run Try.prog w = .ok 1 w := by kernel_rfl
  rw [hs]
  simp [Result.andThen, sliced]
  cases a with
  | none => simp
  | some x => simp [Addr.add]

theorem sum_at (a : Option Addr) (l : List Nat) (n cap s : Nat) (w : World) (hn : l.length = n) (hs : Crc.sum l = s) (hL : Lies w a l) (hm : n ≤ 9223372036854775807) :
    Calls Try.prog 11 #[.slice a n cap] w fun e w' => e = .returned (.int .u32 s) ∧ w' = w := by
  subst hn; subst hs; exact sum_any a l cap w hL hm

theorem getD_take (l : List Nat) (n i : Nat) (h : i < n) : (l.take n).getD i 0 = l.getD i 0 := by simp [List.getD, h]

/-- The row of the xors lies there. -/
theorem lies_xors {wr : World} {g : Nat} {cs : Array Value} {l0 l1 l2 : List Nat} {k : Nat} (h0 : k ≤ l0.length) (h1 : k ≤ l1.length) (h2 : k ≤ l2.length)
    (b0 : ∀ c ∈ l0, c < 256) (b1 : ∀ c ∈ l1, c < 256) (b2 : ∀ c ∈ l2, c < 256)
    (hh : wr.heap[g]? = some (.cells cs 5 (0, 0))) (hx : ∀ j, j < k → cs[j]? = some (.int .u8 (((l0.getD j 0 ^^^ l1.getD j 0) ^^^ l2.getD j 0 : Nat) : Int))) :
    Lies wr (some ⟨g, 0, none⟩) (Crc.xorL (Crc.xorL (l0.take k) (l1.take k)) (l2.take k)) ∧ (Crc.xorL (Crc.xorL (l0.take k) (l1.take k)) (l2.take k)).length = k := by
  have e1 : (Crc.xorL (l0.take k) (l1.take k)).length = k := by rw [Crc.xorL_length _ _ (by simp; omega)]; simp; omega
  have e2 : (Crc.xorL (Crc.xorL (l0.take k) (l1.take k)) (l2.take k)).length = k := by rw [Crc.xorL_length _ _ (by rw [e1]; simp; omega)]; exact e1
  have e3 : ∀ i, i < k → (Crc.xorL (Crc.xorL (l0.take k) (l1.take k)) (l2.take k)).getD i 0 = (l0.getD i 0 ^^^ l1.getD i 0) ^^^ l2.getD i 0 := fun i hi => by
    rw [Crc.xorL_getD _ _ (by rw [e1]; simp; omega), Crc.xorL_getD _ _ (by simp; omega), getD_take _ _ _ hi, getD_take _ _ _ hi, getD_take _ _ _ hi]
  refine ⟨⟨fun c hc => ?_, .inr ⟨g, 0, rfl, fun i hi => ?_⟩⟩, e2⟩
  · obtain ⟨i, hi, rfl⟩ := List.mem_iff_getElem.1 hc
    have : (Crc.xorL (Crc.xorL (l0.take k) (l1.take k)) (l2.take k))[i] = (Crc.xorL (Crc.xorL (l0.take k) (l1.take k)) (l2.take k)).getD i 0 := by simp [List.getD, hi]
    rw [this, e3 i (by omega)]
    exact Nat.xor_lt_two_pow (n := 8) (Nat.xor_lt_two_pow (n := 8) (getD_lt b0 i) (getD_lt b1 i)) (getD_lt b2 i)
  · rw [Nat.zero_add, Joins.cell_of_block hh, hx i (by omega), e3 i (by omega)]

theorem xor3_u32 (x a b c : Nat) (ha : a < 4294967296) (hb : b < 4294967296) (hc : c < 4294967296) (h : x = (a ^^^ b) ^^^ c) :
    ((x : Int) == Go.bits BinOp.xor IntKind.u32 (Go.bits BinOp.xor IntKind.u32 (a : Int) (b : Int)) (c : Int)) = true := by
  rw [u32_xor_nat a b ha hb, u32_xor_nat _ c (Nat.xor_lt_two_pow (n := 32) ha hb) hc, h]; simp

theorem madeCells_size (z : Value) (n : Nat) : (madeCells #[z] n).size = n := by simp [madeCells]

/-- A list of bytes that came in, and where it lies. -/
def Came (w : World) (a : Option Addr) (l : List Nat) : Prop :=
  (∀ c ∈ l, c < 256) ∧ (l = [] ∨ ∃ b off, a = some ⟨b, off, none⟩ ∧ b < w.heap.size ∧ ∀ i, i < l.length → w.cell? ⟨b, off + i, none⟩ = some (.int .u8 ((l.getD i 0 : Nat) : Int)))

theorem Came.lies {w w' : World} {a : Option Addr} {l : List Nat} (h : Came w a l) (hb : Below w.heap.size w w') (n : Nat) : Lies w' a (l.take n) := by
  refine ⟨fun c hc => h.1 c (List.mem_of_mem_take hc), ?_⟩
  rcases h.2 with rfl | ⟨b, off, rfl, hlt, hc⟩
  · left; simp
  · right
    refine ⟨b, off, rfl, fun i hi => ?_⟩
    have h1 : i < n ∧ i < l.length := by simp at hi; omega
    rw [hb.cell (p := ⟨b, off + i, none⟩) hlt, hc i h1.2]
    have : (l.take n).getD i 0 = l.getD i 0 := by simp [List.getD, h1.1]
    rw [this]

theorem xor3_walk (a b c : Nat) (ha : a < 256) (hb : b < 256) (hc : c < 256) :
    Go.bits BinOp.xor IntKind.u8 (Go.bits BinOp.xor IntKind.u8 (a : Int) (b : Int)) (c : Int) = (((a ^^^ b) ^^^ c : Nat) : Int) := by
  rw [u8_xor_nat a b ha hb, u8_xor_nat _ c (Nat.xor_lt_two_pow (n := 8) ha hb) hc]

set_option maxHeartbeats 1000000 in
theorem three_walk (a0 a1 a2 : Option Addr) (l0 l1 l2 : List Nat) (n0 n1 n2 cap0 cap1 cap2 : Nat) (n : Nat) (w : World)
    (hn0 : l0.length = n0) (hn1 : l1.length = n1) (hn2 : l2.length = n2) (c0 : n0 ≤ cap0) (c1 : n1 ≤ cap1) (c2 : n2 ≤ cap2)
    (m0 : cap0 ≤ maxLen) (m1 : cap1 ≤ maxLen) (m2 : cap2 ≤ maxLen) (g0 : Came w a0 l0) (g1 : Came w a1 l1) (g2 : Came w a2 l2)
    (hmin : (if (n2 : Int) < (if n1 < n0 then (n1 : Int) else n0) then (n2 : Int) else (if n1 < n0 then (n1 : Int) else n0)) = (n : Int))
    (hle : n ≤ n0 ∧ n ≤ n1 ∧ n ≤ n2) (hbig : n ≤ 5000) :
    Calls Try.prog 6 #[.slice a0 n0 cap0, .slice a1 n1 cap1, .slice a2 n2 cap2] w fun e w' => e = .returned (.bool true) ∧ Below w.heap.size w w' := by
  unfold maxLen at m0 m1 m2
  have G0 := hide g0
  have G1 := hide g1
  have G2 := hide g2
  have N0 := hide hn0
  have N1 := hide hn1
  have N2 := hide hn2
  clear g0 g1 g2 hn0 hn1 hn2
  have hmk := run_make_row' (P := Try.prog) 22 5 (.int .u8 0) 1 Try.underlying22 Try.info5 rfl .i64 .i64 n (by omega) (by omega)
  go_enter Try.func6, Try.ntmps6
  go_wp2_with fail
  clear hmk hmin
  go_loopw [24] (fun i wr => ∃ k : Nat, ∃ cs : Array Value, k ≤ n ∧ i = .int .i64 k ∧ Below w.heap.size w wr ∧ wr.heap[w.heap.size]? = some (.cells cs 5 (0, 0)) ∧ cs.size = n ∧ ∀ j, j < k → cs[j]? = some (.int .u8 (((l0.getD j 0 ^^^ l1.getD j 0) ^^^ l2.getD j 0 : Nat) : Int)))
    (fun i _ => n - (intOf i).toNat)
  case atStart => exact ⟨0, _, Nat.zero_le _, rfl, (Below.refl _ _).alloc (Nat.le_refl _) _, heap_alloc_new _ _, madeCells_size _ _, fun j h => absurd h (Nat.not_lt_zero _)⟩
  case round =>
    obtain ⟨k, cs, hk, rfl, hbel, hheap, hcs, hx⟩ := hrel
    by_cases hlt : k < n
    · rcases G0.out.2 with rfl | ⟨b0, o0, rfl, t0, d0⟩
      · have := N0.out; simp at this; omega
      rcases G1.out.2 with rfl | ⟨b1, o1, rfl, t1, d1⟩
      · have := N1.out; simp at this; omega
      rcases G2.out.2 with rfl | ⟨b2, o2, rfl, t2, d2⟩
      · have := N2.out; simp at this; omega
      have e0 : wr.cell? ⟨b0, o0 + k, none⟩ = some (.int .u8 ((l0.getD k 0 : Nat) : Int)) := (hbel.cell (p := ⟨b0, o0 + k, none⟩) t0).trans (d0 k (by have := N0.out; omega))
      have e1 : wr.cell? ⟨b1, o1 + k, none⟩ = some (.int .u8 ((l1.getD k 0 : Nat) : Int)) := (hbel.cell (p := ⟨b1, o1 + k, none⟩) t1).trans (d1 k (by have := N1.out; omega))
      have e2 : wr.cell? ⟨b2, o2 + k, none⟩ = some (.int .u8 ((l2.getD k 0 : Nat) : Int)) := (hbel.cell (p := ⟨b2, o2 + k, none⟩) t2).trans (d2 k (by have := N2.out; omega))
      have f0 := getD_lt G0.out.1 k
      have f1 := getD_lt G1.out.1 k
      have f2 := getD_lt G2.out.1 k
      have HX := hide hx
      have HH := hide hheap
      have ec : wr.cell? ⟨w.heap.size, k, none⟩ = some cs[k] := by rw [Joins.cell_of_block hheap]; simp
      have ef := Joins.unfrozen_of_block hheap k
      have HB := hide hbel
      have hlt' : (k : Int) < n := by omega
      have hk0 : (0 : Int) ≤ k := by omega
      have z0 : w.heap.size ≠ b0 := by omega
      have z1 : w.heap.size ≠ b1 := by omega
      have z2 : w.heap.size ≠ b2 := by omega
      have q0 : (k : Int) < n0 := by omega
      have q1 : (k : Int) < n1 := by omega
      have q2 : (k : Int) < n2 := by omega
      clear d0 d1 d2 hx hheap hbel
      generalize hy0 : l0.getD k 0 = y0 at *
      generalize hy1 : l1.getD k 0 = y1 at *
      generalize hy2 : l2.getD k 0 = y2 at *
      have Y0 := hide hy0
      have Y1 := hide hy1
      have Y2 := hide hy2
      clear hy0 hy1 hy2
      go_wp2
      go_region_held3 (fun w' => w'.cell? ⟨b0, o0 + k, none⟩ = some (.int .u8 (y0 : Int)) ∧ w'.cell? ⟨b1, o1 + k, none⟩ = some (.int .u8 (y1 : Int)) ∧ w'.cell? ⟨b2, o2 + k, none⟩ = some (.int .u8 (y2 : Int))) (go_keep) (fail)
      go_wp2
      go_roundw
      case rel =>
        refine ⟨k + 1, cs.setIfInBounds k (.int .u8 (((y0 ^^^ y1) ^^^ y2 : Nat) : Int)), by omega, by go_num, (HB.out.setCell (Nat.le_refl _) _).drew, ?_, by simp [hcs], ?_⟩
        · rw [xor3_walk y0 y1 y2 f0 f1 f2]
          exact Joins.block_setCell HH.out _
        · intro j hj
          by_cases hjk : j = k
          · subst hjk
            rw [Y0.out, Y1.out, Y2.out]
            simp [hcs, hlt]
          · rw [Array.getElem?_setIfInBounds_ne (by omega)]
            exact HX.out j (by omega)
      case measure => simp [intOf]; omega
    · have hkn : k = n := by omega
      subst hkn
      have L0 := hide (G0.out.lies hbel k)
      have L1 := hide (G1.out.lies hbel k)
      have L2 := hide (G2.out.lies hbel k)
      have s0 := slice_h a0 n0 cap0 k (by omega)
      have s1 := slice_h a1 n1 cap1 k (by omega)
      have s2 := slice_h a2 n2 cap2 k (by omega)
      have hx3 := lies_xors (by have := N0.out; omega) (by have := N1.out; omega) (by have := N2.out; omega) G0.out.1 G1.out.1 G2.out.1 hheap hx
      have hS := Crc.sum_three (l0.take k) (l1.take k) (l2.take k) (by have := N0.out; have := N1.out; simp; omega) (by have := N1.out; have := N2.out; simp; omega)
      have e0 : (l0.take k).length = k := by have := N0.out; simp; omega
      have e1 : (l1.take k).length = k := by have := N1.out; simp; omega
      have e2 : (l2.take k).length = k := by have := N2.out; simp; omega
      have r0 := Crc.sum_lt L0.out.1
      have r1 := Crc.sum_lt L1.out.1
      have r2 := Crc.sum_lt L2.out.1
      generalize Crc.xorL (Crc.xorL (l0.take k) (l1.take k)) (l2.take k) = X at hx3 hS
      have X3 := hide hx3
      have E0 := hide e0
      have E1 := hide e1
      have E2 := hide e2
      clear hx3 e0 e1 e2 hx hheap
      generalize l0.take k = t0 at *
      generalize l1.take k = t1 at *
      generalize l2.take k = t2 at *
      obtain ⟨sx, hsx⟩ : ∃ sx, Crc.sum X = sx := ⟨_, rfl⟩
      obtain ⟨y0, hy0⟩ : ∃ sx, Crc.sum t0 = sx := ⟨_, rfl⟩
      obtain ⟨y1, hy1⟩ : ∃ sx, Crc.sum t1 = sx := ⟨_, rfl⟩
      obtain ⟨y2, hy2⟩ : ∃ sx, Crc.sum t2 = sx := ⟨_, rfl⟩
      rw [hsx, hy0, hy1, hy2] at hS
      rw [hy0] at r0
      rw [hy1] at r1
      rw [hy2] at r2
      have heq := xor3_u32 sx y0 y1 y2 r0 r1 r2 hS
      have SX := hide hsx
      have Y0 := hide hy0
      have Y1 := hide hy1
      have Y2 := hide hy2
      have HB := hide hbel
      clear hS hsx hy0 hy1 hy2 hbel r0 r1 r2
      go_wp2
      go_region_held3 (fun w' => True) (trivial) (first
        | (go_at_call_of 11 (Value.slice (some { block := w.heap.size, off := 0 }) k k); refine (sum_at _ X k k sx _ X3.out.2 SX.out (by exact X3.out.1) (by omega)).mono ?_; rintro e w' ⟨rfl, rfl⟩)
        | (go_at_call_of 11 (Value.slice a0 k cap0); refine (sum_at a0 t0 k cap0 y0 _ E0.out Y0.out (by exact L0.out) (by omega)).mono ?_; rintro e w' ⟨rfl, rfl⟩)
        | (go_at_call_of 11 (Value.slice a1 k cap1); refine (sum_at a1 t1 k cap1 y1 _ E1.out Y1.out (by exact L1.out) (by omega)).mono ?_; rintro e w' ⟨rfl, rfl⟩)
        | (go_at_call_of 11 (Value.slice a2 k cap2); refine (sum_at a2 t2 k cap2 y2 _ E2.out Y2.out (by exact L2.out) (by omega)).mono ?_; rintro e w' ⟨rfl, rfl⟩)
        | (go_at_call 7; refine (lives_any _).mono ?_; rintro e w' ⟨rfl, hlv⟩))
      go_wp2
      go_ret
      exact ⟨rfl, HB.out.drew.trans (hlv.mono HB.out.size)⟩

set_option maxHeartbeats 400000 in
theorem three_big (a0 a1 a2 : Option Addr) (n0 n1 n2 cap0 cap1 cap2 : Nat) (n : Nat) (w : World)
    (hmin : (if (n2 : Int) < (if n1 < n0 then (n1 : Int) else n0) then (n2 : Int) else (if n1 < n0 then (n1 : Int) else n0)) = (n : Int)) (hbig : 5000 < n) :
    Calls Try.prog 6 #[.slice a0 n0 cap0, .slice a1 n1 cap1, .slice a2 n2 cap2] w fun e w' => e = .returned (.bool true) ∧ Below w.heap.size w w' := by
  go_enter Try.func6, Try.ntmps6
  go_wp2_with (go_at_call 7; refine (lives_any _).mono ?_; rintro e w' ⟨rfl, hlv⟩)
  go_ret
  exact ⟨rfl, hlv⟩

theorem min_le (n0 n1 n2 : Nat) : ∃ n : Nat, (if (n2 : Int) < (if n1 < n0 then (n1 : Int) else n0) then (n2 : Int) else (if n1 < n0 then (n1 : Int) else n0)) = (n : Int) ∧ n ≤ n0 ∧ n ≤ n1 ∧ n ≤ n2 := by
  refine ⟨min n2 (min n1 n0), ?_, by omega, by omega, by omega⟩
  by_cases h1 : n1 < n0
  · simp only [h1, if_true]
    by_cases h2 : (n2 : Int) < n1
    · simp only [h2, if_true]; omega
    · simp only [h2, if_false]; omega
  · simp only [h1, if_false]
    by_cases h2 : (n2 : Int) < n0
    · simp only [h2, if_true]; omega
    · simp only [h2, if_false]; omega

theorem three_all (a0 a1 a2 : Option Addr) (n0 n1 n2 cap0 cap1 cap2 : Nat) (z0 z1 z2 : List Int) (w : World)
    (w0 : IsRow .u8 w a0 n0 cap0 z0) (w1 : IsRow .u8 w a1 n1 cap1 z1) (w2 : IsRow .u8 w a2 n2 cap2 z2) :
    Calls Try.prog 6 #[.slice a0 n0 cap0, .slice a1 n1 cap1, .slice a2 n2 cap2] w fun e w' => e = .returned (.bool true) ∧ Below w.heap.size w w' := by
  obtain ⟨n, hmin, hle⟩ := min_le n0 n1 n2
  by_cases hbig : n ≤ 5000
  · obtain ⟨l0, e0, c0, m0, g0⟩ := lies_of_row w0
    obtain ⟨l1, e1, c1, m1, g1⟩ := lies_of_row w1
    obtain ⟨l2, e2, c2, m2, g2⟩ := lies_of_row w2
    exact three_walk a0 a1 a2 l0 l1 l2 n0 n1 n2 cap0 cap1 cap2 n w e0 e1 e2 c0 c1 c2 m0 m1 m2 g0 g1 g2 hmin hle hbig
  · exact three_big a0 a1 a2 n0 n1 n2 cap0 cap1 cap2 n w hmin (by omega)
end Go.Proofs.Ytaichjkenfnkbab
