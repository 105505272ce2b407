/- What a reader reads, as the program does it. -/
import Derived.Test.YtgeboanebdmebabVPuts2
namespace Go.Proofs.Ytgeboanebdmebab.V
open Go.RowKit Go.By
set_option linter.unusedVariables false
set_option maxRecDepth 20000
attribute [local go_sem ↓] Go.wp_at_zero Go.wp_at_succ

/-- A reader: the bytes ahead of it, and whether it is good. -/
def Rd (w : World) (g : Nat) (l : List Nat) (ok : Bool) : Prop := w.heap[g]? = some (.cells #[.string (str l), .bool ok] 72 (0, 0))

set_option maxHeartbeats 400000 in
theorem read_look (a : Option Addr) (l : List Nat) (cap : Nat) (w : World) (hL : Came w.heap.size w a l) :
    Calls Try.prog 27 #[.slice a l.length cap] w fun e w' => e = .returned (.pointer (some ⟨w.heap.size, 0, none⟩)) ∧ Rd w' w.heap.size l true ∧ Below w.heap.size w w' := by
  have hcv := run_str (P := Try.prog) 27 5 9 Try.underlying27 Try.underlying5 Try.underlying9 hL.lies l.length cap rfl
  clear hL
  go_enter Try.func27, Try.ntmps27
  go_wp2
  go_ret
  exact ⟨rfl, heap_alloc_new _ _, (Below.refl _ _).alloc (Nat.le_refl _) _⟩

theorem min_nine (n : Nat) : ∃ m : Nat, (if (n : Int) < 9 then (n : Int) else 9) = (m : Int) ∧ m ≤ n ∧ m ≤ 9 ∧ (m = 9 ∨ m = n) := by
  by_cases h : (n : Int) < 9
  · exact ⟨n, by simp [h], by omega, by omega, by omega⟩
  · exact ⟨9, by simp [h], by omega, by omega, by omega⟩

theorem index_str (l : List Nat) (hl : ∀ c ∈ l, c < 256) (i : Nat) (h : i < l.length) (w : World) :
    Sem.run Try.prog (Instr.index 9 (.string (str l)) (.int .i64 (i : Int))) w = .ok (.int .u8 ((l.getD i 0 : Nat) : Int)) w := by
  have hd := getD_lt hl i
  have hs : i < (str l).size := by rw [str_size]; exact h
  have e : (str l)[i]'hs = UInt8.ofNat (l.getD i 0) := by
    have : (str l)[i]'hs = (l.map fun n => UInt8.ofNat n)[i]'(by simpa using h) := rfl
    rw [this]
    simp [List.getD, h]
  have hn : ((str l)[i]'hs).toNat = l.getD i 0 := by rw [e]; generalize l.getD i 0 = x at *; simp; omega
  simp [go_sem, Try.underlying9, hs, hn]

theorem str_extract (l : List Nat) (a b : Nat) : (str l).extract a b = str ((l.drop a).take (b - a)) := by
  apply ByteArray.ext
  apply Array.toList_inj.1
  rw [Lib.extract_data]
  simp [str, List.map_drop, List.map_take]

theorem slice_from (l : List Nat) (k : Nat) (z : Int) (hz : z = (k : Int)) (h : k ≤ l.length) (w : World) :
    Sem.run Try.prog (Instr.slice 9 (.string (str l)) (some (.int .i64 z)) none none) w = .ok (.string (str (l.drop k))) w := by
  subst hz
  rw [Go.run_slice_string_l w 9 (str l) Try.underlying9 .i64 k (by omega) (by rw [str_size]; omega)]
  rw [Int.toNat_natCast, str_extract, str_size, List.take_of_length_le (by simp)]

theorem slice_to (l : List Nat) (k : Nat) (z : Int) (hz : z = (k : Int)) (h : k ≤ l.length) (w : World) :
    Sem.run Try.prog (Instr.slice 9 (.string (str l)) none (some (.int .i64 z)) none) w = .ok (.string (str (l.take k))) w := by
  subst hz
  rw [Go.run_slice_string_h w 9 (str l) Try.underlying9 .i64 k (by omega) (by rw [str_size]; omega)]
  rw [Int.toNat_natCast, str_extract]
  simp

/-- Only the block g has turned. -/
def Turn (g : Nat) (w w' : World) : Prop := w.grownBy w' (some g) ∧ w'.heap.size = w.heap.size

theorem Turn.refl (g : Nat) (w : World) : Turn g w w := ⟨⟨rfl, rfl, rfl, Nat.le_refl _, fun _ _ _ => rfl⟩, rfl⟩

theorem Turn.trans {g : Nat} {a b c : World} (h : Turn g a b) (k : Turn g b c) : Turn g a c :=
  ⟨⟨k.1.os.trans h.1.os, k.1.tape.trans h.1.tape, k.1.output.trans h.1.output, Nat.le_trans h.1.size k.1.size, fun i hi hne => (k.1.block i (by rw [h.2]; exact hi) hne).trans (h.1.block i hi hne)⟩, k.2.trans h.2⟩

theorem Turn.set {g i : Nat} {a b : World} (h : Turn g a b) (v : Value) : Turn g a (b.setCell ⟨g, i, none⟩ v) :=
  ⟨⟨h.1.os, h.1.tape, h.1.output, by simp [h.2], fun k hk hne => by
    rw [Below.heap_setCell b _ v k (fun e => hne (by rw [e]))]; exact h.1.block k hk hne⟩, by simp [h.2]⟩

theorem Turn.drew {g : Nat} {a b : World} (h : Turn g a b) : Turn g a b.drew := ⟨⟨h.1.os, h.1.tape, h.1.output, h.1.size, h.1.block⟩, h.2⟩

theorem Turn.below {g B : Nat} {w w' : World} (h : Turn g w w') (hB : B ≤ g) (hw : B ≤ w.heap.size) : Below B w w' :=
  (Below.refl _ _).grown h.1 hw fun k hk => by cases hk; exact hB

theorem Rd.set0 {w : World} {g : Nat} {l : List Nat} {ok : Bool} (h : Rd w g l ok) (m : List Nat) : Rd (w.setCell ⟨g, 0, none⟩ (.string (str m))) g m ok := by
  have := Joins.block_setCell (i := 0) h (.string (str m))
  exact this

theorem Rd.set1 {w : World} {g : Nat} {l : List Nat} {ok : Bool} (h : Rd w g l ok) (b : Bool) : Rd (w.setCell ⟨g, 1, none⟩ (.bool b)) g l b := by
  have := Joins.block_setCell (i := 1) h (.bool b)
  exact this

theorem acc_eq (n d i : Nat) (hn : n < 128 ^ i) (hi : i < 9) : wrap64 ((n : Int) + wrap64 ((d : Int) % 128 * 2 ^ (7 * i))) = ((n + d % 128 * 128 ^ i : Nat) : Int) ∧ n + d % 128 * 128 ^ i < 128 ^ (i + 1) := by
  have e : ((2 : Int) ^ (7 * i)) = ((128 ^ i : Nat) : Int) := by
    have : (2 : Nat) ^ (7 * i) = 128 ^ i := by rw [Nat.pow_mul]
    rw [← this]; simp
  have hp : 128 ^ (i + 1) ≤ 128 ^ 9 := Nat.pow_le_pow_right (by omega) (by omega)
  have h9 : (128 : Nat) ^ 9 = 9223372036854775808 := by decide
  have hd : d % 128 < 128 := Nat.mod_lt _ (by omega)
  have hmul : d % 128 * 128 ^ i ≤ 127 * 128 ^ i := Nat.mul_le_mul_right _ (by omega)
  have hlt : n + d % 128 * 128 ^ i < 128 ^ (i + 1) := by rw [Nat.pow_succ]; omega
  refine ⟨?_, hlt⟩
  have e2 : (d : Int) % 128 * 2 ^ (7 * i) = ((d % 128 * 128 ^ i : Nat) : Int) := by
    rw [e, Int.natCast_mul]; simp
  rw [e2]
  generalize d % 128 * 128 ^ i = q at *
  unfold wrap64
  omega

theorem drop_cons (l : List Nat) (i : Nat) (h : i < l.length) : l.drop i = l.getD i 0 :: l.drop (i + 1) := by
  rw [List.drop_eq_getElem_cons h]; simp [List.getD, h]

/-- What a reader is behind a number. -/
def Nums (g : Nat) (l : List Nat) (ok : Bool) (w : World) (z : Int) (w' : World) : Prop :=
  Turn g w w' ∧ ((∃ n k, Vary.num l = some (n, k) ∧ z = (n : Int) ∧ Rd w' g (l.drop k) ok) ∨ (Vary.num l = none ∧ z = 0 ∧ Rd w' g [] false))

set_option maxHeartbeats 2000000 in
set_option maxRecDepth 20000 in
theorem pnum_any (g : Nat) (l : List Nat) (ok : Bool) (w : World) (hR : Rd w g l ok) (hl : ∀ c ∈ l, c < 256) (hm : l.length ≤ 20000) :
    Calls Try.prog 35 #[.pointer (some ⟨g, 0, none⟩)] w fun e w' => ∃ z, e = .returned (.int .i64 z) ∧ Nums g l ok w z w' := by
  have hc0 : w.cell? ⟨g, 0, none⟩ = some (.string (str l)) := by rw [Joins.cell_of_block hR]; rfl
  have hc1 : w.cell? ⟨g, 1, none⟩ = some (.bool ok) := by rw [Joins.cell_of_block hR]; rfl
  have hf0 := Joins.unfrozen_of_block hR 0
  have hf1 := Joins.unfrozen_of_block hR 1
  have hsz := str_size l
  obtain ⟨N, hmin, hN1, hN2, hN3⟩ := min_nine l.length
  have HR := hide hR
  have HLs := hide hl
  have HN := hide hN3
  clear hR hl hN3
  go_enter Try.func35, Try.ntmps35
  go_wp2
  clear hmin
  go_loop [3, 12] (fun t z => ∃ i n : Nat, i ≤ N ∧ z = .int .i64 i ∧ t = .int .i64 n ∧ n < 128 ^ i ∧ Vary.num l = Vary.numF (9 - i) i n (l.drop i)) (fun _ z => N - (intOf z).toNat)
  case atStart => exact ⟨0, 0, by omega, rfl, rfl, by simp, rfl⟩
  case round =>
    obtain ⟨i, n, hi, rfl, rfl, hn, hnum⟩ := hrel
    by_cases hlt : i < N
    · have hix := index_str l HLs.out i (by omega)
      have hd := getD_lt HLs.out i
      have hacc := acc_eq n (l.getD i 0) i hn (by omega)
      have hdr := drop_cons l i (by omega)
      obtain ⟨f, hf⟩ : ∃ f, 9 - i = f + 1 := ⟨8 - i, by omega⟩
      have hf' : f = 9 - (i + 1) := by omega
      rw [hdr, hf] at hnum
      have hslf := slice_from l (i + 1) ((i : Int) + 1) (by omega) (by omega)
      generalize l.getD i 0 = d at *
      generalize hn' : n + d % 128 * 128 ^ i = n' at *
      have HF' := hide hf'
      have HACC := hide hacc
      have HNUM := hide hnum
      have HN' := hide hn'
      have HDR := hide hdr
      have HN0 : Hid (i = 0 → n = 0) := by
        intro h
        have := hn
        rw [h] at this
        simpa using this
      clear hacc hnum hn' hdr hf hf' hn
      by_cases hge : 128 ≤ d
      · go_wp2
        go_round
        case rel =>
          refine ⟨i + 1, n', by omega, by go_num, by rw [HACC.out.1], HACC.out.2, ?_⟩
          have := HNUM.out
          unfold Vary.numF at this
          rw [if_pos hge, HN'.out, HF'.out] at this
          exact this
        case measure => simp [intOf]; omega
      · have hstep : Vary.num l = if (d = 0 ∧ 0 < i) ∨ Vary.maxNum < n' then none else some (n', i + 1) := by
          have := HNUM.out
          unfold Vary.numF at this
          rw [if_neg hge, HN'.out] at this
          exact this
        have HST := hide hstep
        clear hstep
        by_cases hi0 : i = 0
        · subst hi0
          have hn0 : n = 0 := HN0.out rfl
          subst hn0
          have hn'd : n' = d := by rw [← HN'.out]; simp; omega
          have HD := hide hn'd
          clear hn'd
          have hsl1 := slice_from l 1 1 rfl (by omega)
          have hix1 : ∀ w, Sem.run Try.prog (Instr.index 9 (.string (str l)) (.int .i64 0)) w = .ok (.int .u8 (d : Int)) w := hix
          clear hslf hix
          by_cases hd0 : d = 0
          · subst hd0
            go_wp2
            go_ret
            refine ⟨_, rfl, (Turn.refl g w).set _, .inl ⟨n', 1, ?_, by rw [HD.out]; rfl, by rw [List.drop_one]; exact HR.out.set0 _⟩⟩
            have := HST.out
            rw [if_neg (by rw [HD.out]; unfold Vary.maxNum; omega)] at this
            exact this
          · have q1 : ((d : Int) == 0) = false := by simp; omega
            go_wp2
            go_ret
            refine ⟨_, rfl, (Turn.refl g w).set _, .inl ⟨n', 1, ?_, by rw [HD.out]; omega, by rw [List.drop_one]; exact HR.out.set0 _⟩⟩
            have := HST.out
            rw [if_neg (by rw [HD.out]; unfold Vary.maxNum; omega)] at this
            exact this
        · have hip : 0 < i := by omega
          have hip' : (0 : Int) < (i : Int) := by omega
          by_cases hd0 : d = 0
          · subst hd0
            go_wp2
            go_ret
            refine ⟨_, rfl, ((Turn.refl g w).set _).set _, .inr ⟨?_, rfl, (HR.out.set0 []).set1 false⟩⟩
            have := HST.out
            simp [hip] at this
            exact this
          · have q1 : ((d : Int) == 0) = false := by simp; omega
            by_cases hbig : Vary.maxNum < n'
            · have q2 : decide ((4611686018427387904 : Int) < wrap64 ((n : Int) + wrap64 ((d : Int) % 128 * 2 ^ (7 * i)))) = true := by
                rw [HACC.out.1]; unfold Vary.maxNum at hbig; simp; omega
              have HBIG := hide hbig
              clear hbig
              go_wp2
              go_ret
              refine ⟨_, rfl, ((Turn.refl g w).set _).set _, .inr ⟨?_, rfl, (HR.out.set0 []).set1 false⟩⟩
              have := HST.out
              rw [if_pos (.inr HBIG.out)] at this
              exact this
            · have q2 : decide ((4611686018427387904 : Int) < wrap64 ((n : Int) + wrap64 ((d : Int) % 128 * 2 ^ (7 * i)))) = false := by
                rw [HACC.out.1]; unfold Vary.maxNum at hbig; simp; omega
              have HBIG := hide hbig
              clear hbig
              go_wp2
              go_ret
              refine ⟨_, rfl, (Turn.refl g w).set _, .inl ⟨n', i + 1, ?_, HACC.out.1, HR.out.set0 _⟩⟩
              have := HST.out
              have hne : ¬ ((d = 0 ∧ 0 < i) ∨ Vary.maxNum < n') := fun h => h.elim (fun h => hd0 h.1) HBIG.out
              rw [if_neg hne] at this
              exact this
    · have hnone : Vary.num l = none := by
        have hiN : i = N := by omega
        rw [hnum]
        rcases HN.out with h | h
        · have : 9 - i = 0 := by omega
          rw [this]; rfl
        · rw [List.drop_eq_nil_of_le (by omega)]
          cases 9 - i <;> rfl
      have HNO := hide hnone
      clear hnone hnum hn
      go_wp2
      go_ret
      exact ⟨_, rfl, ((Turn.refl g w).set _).set _, .inr ⟨HNO.out, rfl, (HR.out.set0 []).set1 false⟩⟩

/-- What a reader is behind taking n bytes. -/
def Took (g : Nat) (l : List Nat) (ok : Bool) (n : Nat) (w : World) (s : List Nat) (w' : World) : Prop :=
  Turn g w w' ∧ ((n ≤ l.length ∧ s = l.take n ∧ Rd w' g (l.drop n) ok) ∨ (l.length < n ∧ s = [] ∧ Rd w' g [] false))

set_option maxHeartbeats 1000000 in
set_option maxRecDepth 20000 in
theorem take_any (g : Nat) (l : List Nat) (ok : Bool) (n : Nat) (w : World) (hR : Rd w g l ok) (hm : l.length ≤ 20000) (hn : (n : Int) ≤ 4611686018427387904) :
    Calls Try.prog 36 #[.pointer (some ⟨g, 0, none⟩), .int .i64 (n : Int)] w fun e w' => ∃ s, e = .returned (.string (str s)) ∧ Took g l ok n w s w' := by
  have hc0 : w.cell? ⟨g, 0, none⟩ = some (.string (str l)) := by rw [Joins.cell_of_block hR]; rfl
  have hc1 : w.cell? ⟨g, 1, none⟩ = some (.bool ok) := by rw [Joins.cell_of_block hR]; rfl
  have hf0 := Joins.unfrozen_of_block hR 0
  have hf1 := Joins.unfrozen_of_block hR 1
  have hsz := str_size l
  have HR := hide hR
  clear hR
  by_cases hle : n ≤ l.length
  · have h1 := slice_to l n n rfl hle
    have h2 := slice_from l n n rfl hle
    go_enter Try.func36, Try.ntmps36
    go_wp2
    go_ret
    exact ⟨_, rfl, (Turn.refl g w).set _, .inl ⟨hle, rfl, HR.out.set0 _⟩⟩
  · go_enter Try.func36, Try.ntmps36
    go_wp2
    go_ret
    exact ⟨[], rfl, ((Turn.refl g w).set _).set _, .inr ⟨by omega, rfl, (HR.out.set0 []).set1 false⟩⟩

set_option maxHeartbeats 400000 in
theorem Num_any (g : Nat) (l : List Nat) (ok : Bool) (w : World) (hR : Rd w g l ok) (hl : ∀ c ∈ l, c < 256) (hm : l.length ≤ 20000) :
    Calls Try.prog 28 #[.pointer (some ⟨g, 0, none⟩)] w fun e w' => ∃ z, e = .returned (.int .i64 z) ∧ Nums g l ok w z w' := by
  have hc0 : w.cell? ⟨g, 0, none⟩ = some (.string (str l)) := by rw [Joins.cell_of_block hR]; rfl
  have HR := hide hR
  have HLs := hide hl
  clear hR hl
  go_enter Try.func28, Try.ntmps28
  go_wp2_with fail
  refine (pnum_any g l ok w HR.out HLs.out hm).mono ?_
  rintro e w1 ⟨z, rfl, hn⟩
  have HN := hide hn
  clear hn
  go_wp2
  go_ret
  exact ⟨z, rfl, HN.out⟩

set_option maxHeartbeats 400000 in
theorem Num_nil (w : World) : Calls Try.prog 28 #[.pointer none] w fun e w' => e = .returned (.int .i64 0) ∧ w' = w := by
  go_enter Try.func28, Try.ntmps28
  go_wp2
  go_ret
  exact ⟨rfl, rfl⟩

set_option maxHeartbeats 400000 in
theorem Bad_any (g : Nat) (l : List Nat) (ok : Bool) (w : World) (hR : Rd w g l ok) :
    Calls Try.prog 29 #[.pointer (some ⟨g, 0, none⟩)] w fun e w' => e = .returned (.bool !ok) ∧ w' = w := by
  have hc1 : w.cell? ⟨g, 1, none⟩ = some (.bool ok) := by rw [Joins.cell_of_block hR]; rfl
  clear hR
  go_enter Try.func29, Try.ntmps29
  go_wp2
  go_ret
  exact ⟨rfl, rfl⟩

set_option maxHeartbeats 400000 in
theorem Bad_nil (w : World) : Calls Try.prog 29 #[.pointer none] w fun e w' => e = .returned (.bool true) ∧ w' = w := by
  go_enter Try.func29, Try.ntmps29
  go_wp2
  go_ret
  exact ⟨rfl, rfl⟩

set_option maxHeartbeats 400000 in
theorem Left_any (g : Nat) (l : List Nat) (ok : Bool) (w : World) (hR : Rd w g l ok) :
    Calls Try.prog 30 #[.pointer (some ⟨g, 0, none⟩)] w fun e w' => e = .returned (.int .i64 (l.length : Int)) ∧ w' = w := by
  have hc0 : w.cell? ⟨g, 0, none⟩ = some (.string (str l)) := by rw [Joins.cell_of_block hR]; rfl
  have hsz := str_size l
  clear hR
  go_enter Try.func30, Try.ntmps30
  go_wp2
  go_ret
  exact ⟨rfl, rfl⟩

set_option maxHeartbeats 400000 in
theorem Left_nil (w : World) : Calls Try.prog 30 #[.pointer none] w fun e w' => e = .returned (.int .i64 0) ∧ w' = w := by
  go_enter Try.func30, Try.ntmps30
  go_wp2
  go_ret
  exact ⟨rfl, rfl⟩

set_option maxHeartbeats 400000 in
theorem Done_any (g : Nat) (l : List Nat) (ok : Bool) (w : World) (hR : Rd w g l ok) :
    Calls Try.prog 33 #[.pointer (some ⟨g, 0, none⟩)] w fun e w' => e = .returned (.bool (ok && decide (l = []))) ∧ w' = w := by
  have HR := hide hR
  clear hR
  cases ok with
  | false =>
    go_enter Try.func33, Try.ntmps33
    go_wp2_with (go_at_call 29; refine (Bad_any g l false _ HR.out).mono ?_; rintro e w' ⟨rfl, rfl⟩)
    go_ret
    exact ⟨rfl, rfl⟩
  | true =>
    by_cases h0 : l = []
    · subst h0
      go_enter Try.func33, Try.ntmps33
      go_wp2_with (first | (go_at_call 29; refine (Bad_any g [] true _ HR.out).mono ?_; rintro e w' ⟨rfl, rfl⟩) | (go_at_call 30; refine (Left_any g [] true _ HR.out).mono ?_; rintro e w' ⟨rfl, rfl⟩))
      go_ret
      exact ⟨rfl, rfl⟩
    · have hq : ((l.length : Int) == 0) = false := by
        have : 0 < l.length := List.length_pos_iff.2 h0
        simp; omega
      have hdn : decide (l = []) = false := by simpa using h0
      have HDN := hide hdn
      clear hdn
      go_enter Try.func33, Try.ntmps33
      go_wp2_with (first | (go_at_call 29; refine (Bad_any g l true _ HR.out).mono ?_; rintro e w' ⟨rfl, rfl⟩) | (go_at_call 30; refine (Left_any g l true _ HR.out).mono ?_; rintro e w' ⟨rfl, rfl⟩))
      go_ret
      exact ⟨by rw [HDN.out]; rfl, rfl⟩

set_option maxHeartbeats 400000 in
theorem Done_nil (w : World) : Calls Try.prog 33 #[.pointer none] w fun e w' => e = .returned (.bool false) ∧ w' = w := by
  go_enter Try.func33, Try.ntmps33
  go_wp2_with (go_at_call 29; refine (Bad_nil _).mono ?_; rintro e w' ⟨rfl, rfl⟩)
  go_ret
  exact ⟨rfl, rfl⟩
end Go.Proofs.Ytgeboanebdmebab.V
