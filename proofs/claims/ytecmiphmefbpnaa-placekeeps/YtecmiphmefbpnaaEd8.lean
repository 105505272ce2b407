/- The reference's Good. -/
import Derived.Test.YtecmiphmefbpnaaEd7
namespace Go.Proofs.Ytecmiphmefbpnaa.E
open Go.Proofs.Ytecmiphmefbpnaa Go.RowKit Go.By Go.Shelf
set_option linter.unusedVariables false

def kbad (h : Nat) (x : Rn) : Prop := kind x = 0 ∨ kind x = h ∨ (kind x = 2 ∧ h = 3)
instance (h : Nat) (x : Rn) : Decidable (kbad h x) := by unfold kbad; infer_instance
def kstep (h : Option Nat) (x : Rn) : Option Nat := h.bind fun h => if kbad h x then none else some (kind x)
def kscan (rs : List Rn) : Option Nat := rs.foldl kstep (some 0)
def join (a : Option Nat) (b : Option Ss) : Option Ms := a.bind fun h => b.map fun s => (s.1, s.2, h)

theorem mstep_join (a : Option Nat) (b : Option Ss) (x : Rn) : mstep (join a b) x = join (kstep a x) (sstep b x) := by
  cases a with
  | none => rfl
  | some h =>
    cases b with
    | none => simp [join, mstep, kstep, sstep]
    | some s =>
      have e : mbad (s.1, s.2, h) x ↔ kbad h x ∨ sbad s x := by
        unfold mbad kbad sbad
        constructor
        · rintro (h | h | h | h)
          · exact .inl (.inl h)
          · exact .inl (.inr (.inl h))
          · exact .inl (.inr (.inr h))
          · exact .inr h
        · rintro ((h | h | h) | h)
          · exact .inl h
          · exact .inr (.inl h)
          · exact .inr (.inr (.inl h))
          · exact .inr (.inr (.inr h))
      by_cases h1 : kbad h x
      · have : mbad (s.1, s.2, h) x := e.2 (.inl h1)
        simp [join, mstep, kstep, sstep, h1, this]
      · by_cases h2 : sbad s x
        · have : mbad (s.1, s.2, h) x := e.2 (.inr h2)
          simp [join, mstep, kstep, sstep, h1, h2, this]
        · have : ¬ mbad (s.1, s.2, h) x := fun h => (e.1 h).elim h1 h2
          simp [join, mstep, kstep, sstep, h1, h2, this, mnext, snext]

theorem foldl_join (rs : List Rn) : ∀ a b, rs.foldl mstep (join a b) = join (rs.foldl kstep a) (rs.foldl sstep b) := by
  induction rs with
  | nil => intro a b; rfl
  | cons x rs ih => intro a b; rw [List.foldl_cons, mstep_join, ih]; rfl
theorem mscan_join (rs : List Rn) : mscan rs = join (kscan rs) (sscan rs) := foldl_join rs (some 0) (some (0, 0))

theorem kscan_snoc (pre : List Rn) (x : Rn) : kscan (pre ++ [x]) = kstep (kscan pre) x := by simp [kscan]
theorem kscan_bad {pre : List Rn} {x : Rn} {h : Nat} (e : kscan pre = some h) (hb : kbad h x) : kscan (pre ++ [x]) = none := by rw [kscan_snoc, e]; simp [kstep, hb]
theorem kscan_good {pre : List Rn} {x : Rn} {h : Nat} (e : kscan pre = some h) (hb : ¬ kbad h x) : kscan (pre ++ [x]) = some (kind x) := by rw [kscan_snoc, e]; simp [kstep, hb]
theorem foldl_kstep_none (rs : List Rn) : rs.foldl kstep none = none := by induction rs with
  | nil => rfl
  | cons x rs ih => exact ih
theorem kscan_none {pre rs : List Rn} (h : pre <+: rs) (hn : kscan pre = none) : kscan rs = none := by
  obtain ⟨t, rfl⟩ := h
  unfold kscan at hn ⊢
  rw [List.foldl_append, hn, foldl_kstep_none]
theorem foldl_kstep_all (rs : List Rn) : ∀ a, rs.foldl kstep a ≠ none → ∀ x ∈ rs, kind x ≠ 0 := by
  induction rs with
  | nil => intro a _ x hx; cases hx
  | cons y rs ih =>
    intro a h x hx
    rcases List.mem_cons.1 hx with rfl | hx
    · intro h0
      refine h ?_
      have : kstep a x = none := by cases a <;> simp [kstep, kbad, h0]
      rw [List.foldl_cons, this, foldl_kstep_none]
    · exact ih _ h x hx
theorem kscan_all {rs : List Rn} {h : Nat} (e : kscan rs = some h) : ∀ x ∈ rs, kind x ≠ 0 := foldl_kstep_all rs _ (by unfold kscan at e; rw [e]; simp)

/-- The last one's kind. -/
def lastK (rs : List Rn) (k : Nat) : Nat := if k = 0 then 0 else kind (rs.getD (k - 1) rn0)

def isG (rs : List Rn) : Bool := (meas rs).isSome
theorem meas_none_len {rs : List Rn} (h : ¬ rs.length ≤ 65536) : isG rs = false := by rw [isG, meas, if_neg h]; rfl
theorem meas_none_k {rs : List Rn} (h : kscan rs = none) : isG rs = false := by
  unfold isG meas; split
  · rw [mscan_join, h]; rfl
  · rfl
theorem meas_k {rs : List Rn} {h : Nat} (hl : rs.length ≤ 65536) (e : kscan rs = some h) : isG rs = (sscan rs).isSome := by
  rw [isG, meas, if_pos hl, mscan_join, e]; cases sscan rs <;> rfl

theorem sumV_eq (s : Option Ss) : sumV s = .tuple #[.int .i64 ((s.getD (0, 0)).1), .int .i64 ((s.getD (0, 0)).2), .bool s.isSome] := by cases s <;> rfl
theorem sums_eq (a : Option Addr) (cap : Nat) (rs : List Rn) (w : World) (hS : CameR w.heap.size w a rs) (hl : rs.length ≤ 1000000) (hK : ∀ x ∈ rs, kind x ≠ 0) :
    Calls Try.prog 36 #[.slice a rs.length cap] w fun e W' => e = .returned (.tuple #[.int .i64 (((sscan rs).getD (0, 0)).1), .int .i64 (((sscan rs).getD (0, 0)).2), .bool (sscan rs).isSome]) ∧ Below w.heap.size w W' :=
  (sums_any a cap rs w hS hl hK).mono fun e W' h => ⟨by rw [h.1, sumV_eq], h.2⟩

theorem ret_bool {a b : Bool} (h : a = b) : Ending.returned (.bool a) = .returned (.bool b) := by rw [h]

theorem CameR.mono {n₀ n₁ : Nat} {W : World} {a : Option Addr} {rs : List Rn} (h : CameR n₀ W a rs) (hn : n₀ ≤ n₁) : CameR n₁ W a rs :=
  h.imp id fun ⟨b, off, e, hl, hc⟩ => ⟨b, off, e, Nat.lt_of_lt_of_le hl hn, hc⟩

set_option maxRecDepth 100000 in
set_option maxHeartbeats 8000000 in
theorem rgood_any (a : Option Addr) (cap : Nat) (rs : List Rn) (w : World) (hS : CameR w.heap.size w a rs) (hl : rs.length ≤ 1000000) :
    Calls Try.prog 21 #[.slice a rs.length cap] w fun e W' => e = .returned (.bool (isG rs)) ∧ Below w.heap.size w W' := by
  go_enter Try.func21, Try.ntmps21
  by_cases hle : rs.length ≤ 65536
  · have hle' : ¬ (65536 : Int) < (rs.length : Int) := by omega
    go_wp2
    go_loopw [3] (fun c wr => ∃ k : Nat, k ≤ rs.length ∧ c = .int .i64 k ∧ kscan (rs.take k) = some (lastK rs k) ∧ Below w.heap.size w wr)
      (fun c _ => rs.length - (intOf c).toNat)
    case atStart => exact ⟨0, Nat.zero_le _, rfl, rfl, Below.refl _ _⟩
    case round =>
      obtain ⟨k, hk, rfl, hs, hnx⟩ := hrel
      by_cases hlt : k < rs.length
      · obtain ⟨b, off, rfl, hbl, hcell⟩ : ∃ b off, a = some ⟨b, off, none⟩ ∧ b < w.heap.size ∧ ∀ i, i < rs.length →
            w.cell? ⟨b, off + i * 3, none⟩ = some (.int .i64 (rs.getD i rn0).keep) ∧ w.cell? ⟨b, off + i * 3 + 1, none⟩ = some (.string (rs.getD i rn0).add) ∧ w.cell? ⟨b, off + i * 3 + 2, none⟩ = some (.int .i64 (rs.getD i rn0).drop) := by
          rcases hS with rfl | h
          · simp at hlt
          · exact h
        have hC : ∀ i w', i < rs.length → Below w.heap.size w w' → ∀ x, x = rs.getD i rn0 → w'.cell? ⟨b, off + i * 3, none⟩ = some (.int .i64 x.keep) ∧ w'.cell? ⟨b, off + i * 3 + 1, none⟩ = some (.string x.add) ∧ w'.cell? ⟨b, off + i * 3 + 2, none⟩ = some (.int .i64 x.drop) := fun i w' hi hb x hx => by
          rw [hx]
          exact ⟨(hb.cell (p := ⟨b, _, none⟩) hbl).trans (hcell i hi).1, (hb.cell (p := ⟨b, _, none⟩) hbl).trans (hcell i hi).2.1, (hb.cell (p := ⟨b, _, none⟩) hbl).trans (hcell i hi).2.2⟩
        have hsn : rs.take (k + 1) = rs.take k ++ [rs.getD k rn0] := by rw [List.take_succ_eq_append_getElem hlt]; simp [List.getD, hlt]
        obtain ⟨x, hx⟩ : ∃ x, x = rs.getD k rn0 := ⟨_, rfl⟩
        obtain ⟨s0, s1, s2⟩ := hC k wr hlt hnx x hx
        have hbadN : kbad (lastK rs k) x → isG rs = false := fun hb => meas_none_k (kscan_none (List.take_prefix (k + 1) rs) (by rw [hsn, ← hx]; exact kscan_bad hs hb))
        have hgoodN : ¬ kbad (lastK rs k) x → kscan (rs.take (k + 1)) = some (lastK rs (k + 1)) := fun hb => by
          rw [hsn, ← hx, kscan_good hs hb, lastK, if_neg (by omega), Nat.add_sub_cancel, ← hx]
        obtain ⟨xk, xa, xd⟩ := x
        have hlt' : (k : Int) < (rs.length : Int) := by omega
        have HX := hide hx
        have HC := hide hC
        have HBAD := hide hbadN
        have HGOOD := hide hgoodN
        have HNX := hide hnx
        obtain ⟨kx, hkx⟩ : ∃ kx, kx = kind ⟨xk, xa, xd⟩ := ⟨_, rfl⟩
        have HKX := hide hkx
        have hcall : ∀ W, Calls Try.prog 35 #[.agg #[.int .i64 xk, .string xa, .int .i64 xd]] W fun e W' => e = .returned (.int .i64 (kx : Int)) ∧ Below W.heap.size W W' := fun W => by rw [hkx]; exact rkind_any xk xd xa W
        clear hcell hC hx hsn hbadN hgoodN hs hkx hnx
        go_wp2_with fail
        refine (hcall _).mono ?_
        rintro e w1 ⟨rfl, hw1⟩
        have hb1 : Below w.heap.size w w1 := HNX.out.trans (hw1.mono HNX.out.size)
        have HB1 := hide hb1
        clear hw1 hb1
        by_cases a0 : kx = 0
        · have HQ := hide (HBAD.out (.inl (HKX.out ▸ a0)))
          subst a0
          go_wp2
          go_ret
          exact ⟨ret_bool HQ.out.symm, HB1.out⟩
        have a0' : ((kx : Int) == 0) = false := by simp; omega
        by_cases k0 : k = 0
        · have HQ := hide (HGOOD.out (by
            rintro (h | h | h)
            · exact a0 (HKX.out.trans h)
            · rw [lastK, if_pos k0] at h; exact a0 (HKX.out.trans h)
            · rw [lastK, if_pos k0] at h; exact absurd h.2 (by decide)))
          subst k0
          go_wp2
          go_roundw
          case rel => exact ⟨0 + 1, by omega, by simp, HQ.out, HB1.out⟩
          case measure => simp [intOf]; omega
        have k0' : (0 : Int) < (k : Int) := by omega
        obtain ⟨j, hj⟩ : ∃ j, j = k - 1 := ⟨_, rfl⟩
        have hwj : IntKind.i64.wrap ((k : Int) - 1) = (j : Int) := by rw [IntKind.wrap_i64]; omega
        have hjl : (j : Int) < (rs.length : Int) := by omega
        have hjn : j < rs.length := by omega
        obtain ⟨y, hy⟩ : ∃ y, y = rs.getD j rn0 := ⟨_, rfl⟩
        obtain ⟨t0, t1, t2⟩ := HC.out j w1 hjn HB1.out y hy
        have hlast : lastK rs k = kind y := by rw [lastK, if_neg k0, hy, hj]
        have hC2 := fun w' hb => HC.out j w' hjn hb y hy
        obtain ⟨yk, ya, yd⟩ := y
        obtain ⟨ky, hky⟩ : ∃ ky, ky = kind ⟨yk, ya, yd⟩ := ⟨_, rfl⟩
        have hcall2 : ∀ W, Calls Try.prog 35 #[.agg #[.int .i64 yk, .string ya, .int .i64 yd]] W fun e W' => e = .returned (.int .i64 (ky : Int)) ∧ Below W.heap.size W W' := fun W => by rw [hky]; exact rkind_any yk yd ya W
        have HL : Hid (lastK rs k = ky) := hlast.trans hky.symm
        have HC2 := hide hC2
        have HJ := hide hj
        clear hlast hky hC2 hy hj
        go_wp2_with fail
        refine (hcall2 _).mono ?_
        rintro e w2 ⟨rfl, hw2⟩
        have hb2 : Below w.heap.size w w2 := HB1.out.trans (hw2.mono HB1.out.size)
        have HB2 := hide hb2
        clear hw2 hb2
        by_cases a1 : ky = kx
        · have HQ := hide (HBAD.out (.inr (.inl ((HKX.out.symm.trans a1.symm).trans HL.out.symm))))
          subst a1
          go_wp2
          go_ret
          exact ⟨ret_bool HQ.out.symm, HB2.out⟩
        have a1' : ((ky : Int) == (kx : Int)) = false := by simp; omega
        obtain ⟨t3, t4, t5⟩ := HC2.out w2 HB2.out
        go_wp2_with fail
        refine (hcall2 _).mono ?_
        rintro e w3 ⟨rfl, hw3⟩
        have hb3 : Below w.heap.size w w3 := HB2.out.trans (hw3.mono HB2.out.size)
        have HB3 := hide hb3
        clear hw3 hb3
        by_cases a2 : kx = 2 ∧ ky = 3
        · have HQ := hide (HBAD.out (.inr (.inr ⟨HKX.out.symm.trans a2.1, HL.out.trans a2.2⟩)))
          obtain ⟨rfl, rfl⟩ := a2
          go_wp2
          go_ret
          exact ⟨ret_bool HQ.out.symm, HB3.out⟩
        have HQ := hide (HGOOD.out (by
          rintro (h | h | h)
          · exact a0 (HKX.out.trans h)
          · exact a1 ((HL.out.symm.trans h.symm).trans HKX.out.symm)
          · exact a2 ⟨HKX.out.trans h.1, HL.out.symm.trans h.2⟩))
        by_cases a3 : ky = 3
        · have a4 : ((kx : Int) == 2) = false := by simp; omega
          subst a3
          go_wp2
          go_roundw
          case rel => exact ⟨k + 1, by omega, by simp, HQ.out, HB3.out⟩
          case measure => simp [intOf]; omega
        · have a4 : ((ky : Int) == 3) = false := by simp; omega
          go_wp2
          go_roundw
          case rel => exact ⟨k + 1, by omega, by simp, HQ.out, HB3.out⟩
          case measure => simp [intOf]; omega
      · obtain rfl : k = rs.length := by omega
        rw [List.take_length] at hs
        have hall := kscan_all hs
        have HQ := hide (meas_k hle hs)
        have hsm := sums_eq a cap rs wr ((hS.below hnx).mono hnx.size) hl hall
        clear hs hall
        go_wp2_with fail
        refine hsm.mono ?_
        rintro e w1 ⟨rfl, hw1⟩
        have HB1 := hide (hnx.trans (hw1.mono hnx.size))
        clear hw1
        go_wp2
        go_ret
        exact ⟨ret_bool HQ.out.symm, HB1.out⟩
  · have hle' : (65536 : Int) < (rs.length : Int) := by omega
    go_wp2
    go_ret
    exact ⟨ret_bool (meas_none_len hle).symm, Below.refl _ _⟩

end Go.Proofs.Ytecmiphmefbpnaa.E
