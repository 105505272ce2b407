/- JournalPlays, walked. -/
import Derived.Test.YtolidhjffminkaaJN
namespace Go.Proofs.Ytolidhjffminkaa.J
open Go.Proofs.Ytolidhjffminkaa Go.RowKit Go.By
set_option linter.unusedVariables false
set_option linter.unusedSimpArgs false
attribute [local go_sem ↓] Go.wp_at_zero Go.wp_at_succ

/-- A step that came: Trim, N, X. -/
abbrev St := Bool × Int × ByteArray
def st0 : St := (false, 0, ⟨#[]⟩)
def CameS (B : Nat) (W : World) (a : Option Addr) (ss : List St) : Prop := ss = [] ∨ ∃ b off, a = some ⟨b, off, none⟩ ∧ b < B ∧ ∀ i, i < ss.length → W.cell? ⟨b, off + i * 3, none⟩ = some (.bool (ss.getD i st0).1) ∧ W.cell? ⟨b, off + i * 3 + 1, none⟩ = some (.int .i64 (ss.getD i st0).2.1) ∧ W.cell? ⟨b, off + i * 3 + 2, none⟩ = some (.string (ss.getD i st0).2.2)
theorem came_step {w W : World} {a : Option Addr} {ss : List St} (h : CameS w.heap.size w a ss) (hb : Below w.heap.size w W) {i : Nat} (hi : i < ss.length) : ∃ b off, a = some ⟨b, off, none⟩ ∧ W.cell? ⟨b, off + i * 3, none⟩ = some (.bool (ss.getD i st0).1) ∧ W.cell? ⟨b, off + i * 3 + 1, none⟩ = some (.int .i64 (ss.getD i st0).2.1) ∧ W.cell? ⟨b, off + i * 3 + 2, none⟩ = some (.string (ss.getD i st0).2.2) := by
  rcases h with rfl | ⟨b, off, e, hlt, hc⟩
  · simp at hi
  · obtain ⟨h1, h2, h3⟩ := hc i hi
    exact ⟨b, off, e, (hb.cell (p := ⟨b, off + i * 3, none⟩) hlt).trans h1, (hb.cell (p := ⟨b, off + i * 3 + 1, none⟩) hlt).trans h2, (hb.cell (p := ⟨b, off + i * 3 + 2, none⟩) hlt).trans h3⟩

theorem ring_nil (n : Int) (h : n < 1) (w : World) : Calls Try.prog 17 #[.int .i64 n] w fun e W' => e = .returned (.pointer none) ∧ W' = w := by
  go_enter Try.func17, Try.ntmps17
  go_wp2
  go_ret
  exact ⟨rfl, rfl⟩
theorem new_nil (n : Int) (h : n < 1 ∨ 1024 < n) (w : World) : Calls Try.prog 7 #[.int .i64 n] w fun e W' => e = .returned (.pointer none) ∧ W' = w := by
  by_cases h1 : 1024 < n
  · clear h
    go_enter Try.func7, Try.ntmps7
    go_wp2
    go_ret
    exact ⟨rfl, rfl⟩
  · have h2 : n < 1 := by omega
    have HR := hide (ring_nil n h2 w)
    clear h
    go_enter Try.func7, Try.ntmps7
    go_wp2_with (go_at_call 17; refine HR.out.mono ?_; rintro e W1 ⟨rfl, hw⟩; subst hw)
    go_ret
    exact ⟨rfl, rfl⟩

section
variable {w0 W W' : World} {j g M bR bs bj n cap base : Nat} {r : Option Nat} {K L : List ByteArray} {u : Option Addr} {t : Bool} {nn : Int} {x : ByteArray}
theorem P3.sinceOk (i0 k d : Nat) (hk : base + i0 = k) (hd : n - k = d) (h : P3 w0 W j g M bR r base (L.drop base) base L u n cap) (hb : base ≤ 1000000) (hi : k ≤ n) :
    Calls Try.prog 14 #[.pointer (some ⟨j, 0, none⟩), .int .i64 (k : Int)] W fun e W' => (∃ a c, e = .returned (.tuple #[.slice a d c, .int .i64 0]) ∧ LS W' a (L.drop k)) ∧ Below W.heap.size W W' := by
  subst hk hd
  have hl := h.len
  refine (h.jn.sinceB i0 hb (by rw [List.length_drop]; omega)).mono ?_
  rintro e W' ⟨⟨a, c, he, hlb⟩, _, hb2⟩
  rw [List.drop_drop] at he hlb
  rw [List.length_drop, hl] at he
  exact ⟨⟨a, c, he, hlb.ls⟩, hb2⟩
theorem P3.sinceOld (at_ : Int) (h : P3 w0 W j g M bR r base K base L u n cap) (ha : at_ < base) :
    Calls Try.prog 14 #[.pointer (some ⟨j, 0, none⟩), .int .i64 at_] W fun e W' => e = .returned (.tuple #[.slice none 0 0, .int .i64 160]) ∧ W' = W := since_old at_ h.jn.1 ha
theorem P3.sinceAhead (at_ : Int) (h : P3 w0 W j g M bR r base (L.drop base) base L u n cap) (hb : base ≤ 1000000) (hbn : base ≤ n) (ha : (n : Int) < at_) :
    Calls Try.prog 14 #[.pointer (some ⟨j, 0, none⟩), .int .i64 at_] W fun e W' => e = .returned (.tuple #[.slice none 0 0, .int .i64 161]) ∧ ∃ q, W' = W.drewN q :=
  since_ahead at_ h.jn.1 hb (by rw [List.length_map, List.length_drop, h.len]; omega)
theorem P3.head (h : P3 w0 W j g M bR r base (L.drop base) base L u n cap) (hb : base ≤ 1000000) (hbn : base ≤ n) (q : Nat) :
    Calls Try.prog 13 #[.pointer (some ⟨j, 0, none⟩)] (W.drewN q) fun e W' => e = .returned (.int .i64 (n : Int)) ∧ ∃ q2, W' = (W.drewN q).drewN q2 := by
  have h2 := (h.drewN q).jn.head hb
  rw [List.length_drop, h.len, Nat.add_sub_cancel' hbn] at h2
  exact h2
theorem P3.base_ (h : P3 w0 W j g M bR r base (L.drop base) base L u n cap) (q : Nat) :
    Calls Try.prog 12 #[.pointer (some ⟨j, 0, none⟩)] (W.drewN q) fun e W' => e = .returned (.int .i64 (base : Int)) ∧ ∃ q2, W' = (W.drewN q).drewN q2 := by
  refine (h.drewN q).jn.base.mono ?_
  rintro e W' ⟨he, hw⟩
  exact ⟨he, 0, hw⟩
theorem sb_new (h : P3 w0 W j g M bR r bj K base L u n cap) (t : Bool) (nn : Int) (x : ByteArray) : SB (W.alloc (.cells #[.bool t, .int .i64 nn, .string x] 30)) j g bR r W.heap.size t nn x :=
  ⟨World.alloc_heap_new W _, by have := h.jn.1.lt; omega, by have := h.jn.1.2.2.lt.2; omega, fun e => by have := (h.jn.1.2.2.room _ e).2; omega, by have := lt_of_heap h.box; omega⟩
theorem p3_new {w0 W : World} {j g M : Nat} (h : Jn w0 W j g M none 0 []) : P3 w0 (W.alloc (.cells #[.slice none 0 0, .int .i64 0, .int .i64 (M : Int)] 28)) j g M W.heap.size none 0 (([] : List ByteArray).drop 0) 0 [] none 0 0 :=
  ⟨h.up ((Below.refl _ W).alloc (Nat.le_refl _) _), World.alloc_heap_new W _, .inl rfl, rfl, Nat.le_refl _, by have := h.1.lt; omega, by have := h.1.2.2.lt.2; omega, by simp, h.2.size⟩
/-- While the three questions are asked. -/
def Q3 (w0 W : World) (j g M bR : Nat) (r : Option Nat) (base : Nat) (L : List ByteArray) (u : Option Addr) (n cap bA : Nat) (rev nn : Int) : Prop := P3 w0 W j g M bR r base (L.drop base) base L u n cap ∧ W.heap[bA]? = some (.cells #[.int .i64 rev, .int .i64 nn, .int .i64 (base : Int)] 3 (0, 0))
theorem Q3.seen {w0 W W' : World} {j g M bR : Nat} {r : Option Nat} {base : Nat} {L : List ByteArray} {u : Option Addr} {n cap bA : Nat} {rev nn : Int} (h : Q3 w0 W j g M bR r base L u n cap bA rev nn) (hb : Below W.heap.size W W') : Q3 w0 W' j g M bR r base L u n cap bA rev nn := ⟨h.1.seen hb, (hb.block _ (lt_of_heap h.2)).trans h.2⟩
theorem Q3.drewN {w0 W : World} {j g M bR : Nat} {r : Option Nat} {base : Nat} {L : List ByteArray} {u : Option Addr} {n cap bA : Nat} {rev nn : Int} (h : Q3 w0 W j g M bR r base L u n cap bA rev nn) (q : Nat) : Q3 w0 (W.drewN q) j g M bR r base L u n cap bA rev nn := h.seen (below_drewN (Below.refl _ _) q)
theorem Q3.at_ {w0 W : World} {j g M bR : Nat} {r : Option Nat} {base : Nat} {L : List ByteArray} {u : Option Addr} {n cap bA : Nat} {rev nn : Int} (h : Q3 w0 W j g M bR r base L u n cap bA rev nn) {k : Nat} (hk : k < 3) : ∃ a : Int, W.cell? ⟨bA, k, none⟩ = some (.int .i64 a) := by
  rcases (by omega : k = 0 ∨ k = 1 ∨ k = 2) with rfl | rfl | rfl
  · exact ⟨rev, by rw [Joins.cell_of_block h.2]; rfl⟩
  · exact ⟨nn, by rw [Joins.cell_of_block h.2]; rfl⟩
  · exact ⟨base, by rw [Joins.cell_of_block h.2]; rfl⟩
theorem Q3.new {w0 W : World} {j g M bR : Nat} {r : Option Nat} {base : Nat} {L : List ByteArray} {u : Option Addr} {n cap : Nat} (rev nn : Int) (h : P3 w0 W j g M bR r base (L.drop base) base L u n cap) : Q3 w0 (W.alloc (.cells #[.int .i64 rev, .int .i64 nn, .int .i64 (base : Int)] 3)) j g M bR r base L u n cap W.heap.size rev nn :=
  ⟨h.seen ((Below.refl _ W).alloc (Nat.le_refl _) _), World.alloc_heap_new W _⟩
end

set_option maxRecDepth 20000 in
set_option maxHeartbeats 8000000 in
theorem plays_any (most rev : Int) (a1 : Option Addr) (ss : List St) (m cap1 : Nat) (w : World) (hm : ss.length = m) (hS : CameS w.heap.size w a1 ss) :
    Calls Try.prog 3 #[.int .i64 most, .slice a1 m cap1, .int .i64 rev] w fun e W' => e = .returned (.bool true) ∧ Below w.heap.size w W' := by
  have HLV := hide lives_any
  by_cases hbig : 150 < m
  · clear hS
    go_enter Try.func3, Try.ntmps3
    go_wp2_with (go_at_call 6; refine (HLV.out w).mono ?_; rintro e W1 ⟨rfl, hb⟩; have HB := hide hb; clear hb)
    go_ret
    exact ⟨rfl, HB.out⟩
  by_cases hout : most < 1 ∨ 1024 < most
  · clear hS
    have HN := hide (new_nil most hout w)
    by_cases hl : most < 1
    · clear hout
      go_enter Try.func3, Try.ntmps3
      go_wp2_with (first
        | (go_at_call 7; refine HN.out.mono ?_; rintro e W1 ⟨rfl, hw⟩; subst hw)
        | (go_at_call 6; refine (HLV.out _).mono ?_; rintro e W2 ⟨rfl, hb⟩; have HB := hide hb; clear hb))
      go_ret
      exact ⟨rfl, HB.out⟩
    · have hl2 : 1024 < most := by omega
      clear hout
      go_enter Try.func3, Try.ntmps3
      go_wp2_with (first
        | (go_at_call 7; refine HN.out.mono ?_; rintro e W1 ⟨rfl, hw⟩; subst hw)
        | (go_at_call 6; refine (HLV.out _).mono ?_; rintro e W2 ⟨rfl, hb⟩; have HB := hide hb; clear hb))
      go_ret
      exact ⟨rfl, HB.out⟩
  obtain ⟨M, rfl⟩ : ∃ M : Nat, most = (M : Int) := ⟨most.toNat, by omega⟩
  have hM1 : 1 ≤ M := by omega
  have hM2 : M ≤ 1024 := by omega
  have q1 : ¬ (M : Int) < 1 := by omega
  have q2 : ¬ (1024 : Int) < (M : Int) := by omega
  have HN := hide (Jn.new M hM1 hM2 w)
  have HS := hide hS
  have Hm := hide hm
  clear hS hm hout
  go_enter Try.func3, Try.ntmps3
  go_wp2_with (go_at_call 7; refine HN.out.mono ?_; rintro e W0 ⟨rfl, h⟩; have H0 := hide (p3_new h); clear h HN)
  generalize hbR : W0.heap.size = bR at *
  go_loopw [44] (fun z wr => ∃ i : Nat, z = .int .i64 (i : Int) ∧ i ≤ m ∧ Hid (∃ r base L u nL capL, P3 w wr (w.heap.size + 1) w.heap.size M bR r base (L.drop base) base L u nL capL ∧ base ≤ nL ∧ nL ≤ i)) (fun z _ => m - (intOf z).toNat)
  case atStart => exact ⟨0, rfl, Nat.zero_le _, hide ⟨none, 0, [], none, 0, 0, H0.out, Nat.le_refl _, Nat.le_refl _⟩⟩
  case round =>
    obtain ⟨i, rfl, him, HI⟩ := hrel
    obtain ⟨r, base, L, u, nL, capL, hp, hbn, hni⟩ := HI.out
    by_cases hlt : i < m
    · obtain ⟨b, off, rfl, e0, e1, e2⟩ := came_step HS.out hp.jn.2 (by rw [Hm.out]; exact hlt)
      generalize ss.getD i st0 = stp at *
      obtain ⟨t, nn, x⟩ := stp
      dsimp only at e0 e1 e2
      have HPA := hide (hp.seen ((Below.refl _ wr).alloc (Nat.le_refl _) (.cells #[.bool t, .int .i64 nn, .string x] 30)))
      have HSA := hide (sb_new hp t nn x)
      obtain ⟨d0, d1, d2⟩ := HSA.out.cells
      clear hp HI H0
      by_cases hx : (100 : Int) < (x.size : Int)
      · have HBL := hide HPA.out.jn.2
        go_wp2_with (go_at_call 6; refine (HLV.out _).mono ?_; rintro e W2 ⟨rfl, hb⟩; have HB := hide (HBL.out.trans (hb.mono HBL.out.size)); clear hb)
        go_ret
        exact ⟨rfl, HB.out⟩
      · have HBN := hide hbn
        have HNI := hide (show nL ≤ 150 by omega)
        have HNJ := hide hni
        clear hbn hni
        cases t with
        | true =>
          by_cases hno : nn ≤ (base : Int) ∨ (nL : Int) < nn
          · have HNO := hide hno
            clear hno
            go_wp2_with (first
              | (go_at_call 8; refine (HPA.out.trimsNot nn HSA.out (by have := HBN.out; have := HNI.out; omega) (by rw [List.length_drop, HPA.out.len]; have := HBN.out; have := HNO.out; omega)).mono ?_; rintro e W2 ⟨rfl, hp2, hs2⟩; have HP2 := hide hp2; have HS2 := hide hs2; obtain ⟨c0, c1, c2, f0, f1, f2⟩ := hp2.box.cells; obtain ⟨y0, y1, y2⟩ := hs2.cells; clear hp2 hs2)
              | (go_at_call 9; refine (rtrim_none nn u nL capL base M W2 (by have := HNO.out; omega)).mono ?_; rintro e W3 ⟨rfl, hb3⟩; have HP3 := hide (HP2.out.seen hb3); have HS3 := hide (HS2.out.seen hb3); obtain ⟨g0, g1, g2, k0, k1, k2⟩ := HP3.out.box.cells; obtain ⟨z0, z1, z2⟩ := HS3.out.cells; clear hb3))
            have HP9 := hide (HP3.out.lay (u' := u) (n' := nL) (cap' := capL) (br' := base) (L' := L) HP3.out.ls HP3.out.len HP3.out.cap_)
            have HS9 := hide (HS3.out.lay u nL capL base M)
            clear g0 g1 g2 k0 k1 k2 z0 z1 z2 c0 c1 c2 f0 f1 f2 y0 y1 y2 d0 d1 d2 HP2 HS2 HPA HSA HP3 HS3
            generalize hW9 : laid W3 bR u nL capL base M = W9 at *
            unfold laid at hW9
            rw [hW9]
            clear hW9
            have hbn : base ≤ nL := HBN.out
            have hb9 : base ≤ 1000000 := by have := HNI.out; omega
            have hH := fun q => HP9.out.head hb9 hbn q
            have hBs := fun q => HP9.out.base_ q
            have HHH := hide hH
            have HBB := hide hBs
            clear hH hBs
            obtain ⟨p0, p1, p2, -, -, -⟩ := HP9.out.box.cells
            obtain ⟨y0, y1, y2⟩ := HS9.out.cells
            go_quiet (first | (go_at_call 12; exact Calls.quiet_of (HBB.out _)) | (go_at_call 13; exact Calls.quiet_of (HHH.out _)))
            have HP10 := hide (HP9.out.drewN nq)
            have HS10 := hide (HS9.out.drewN nq)
            clear p0 p1 p2 y0 y1 y2 HBB HHH HP9 HS9
            generalize W9.drewN nq = W10 at *
            obtain ⟨p0, p1, p2, -, -, -⟩ := HP10.out.box.cells
            obtain ⟨y0, y1, y2⟩ := HS10.out.cells
            have HQ := hide (Q3.new rev nn HP10.out)
            generalize hbA : W10.heap.size = bA at *
            go_wp2
            go_loopw [111] (fun z wr2 => ∃ k2 : Nat, z = .int .i64 (k2 : Int) ∧ k2 ≤ 3 ∧ Hid (Q3 w wr2 (w.heap.size + 1) w.heap.size M bR r base (L) u nL capL bA rev nn)) (fun z _ => 3 - (intOf z).toNat)
            case atStart => exact ⟨0, rfl, by omega, HQ⟩
            case round =>
              obtain ⟨k2, rfl, hk2, HI2⟩ := hrel
              by_cases hlt2 : k2 < 3
              · obtain ⟨at_, ha⟩ := HI2.out.at_ hlt2
                obtain ⟨v0, v1, v2, -, -, -⟩ := HI2.out.1.box.cells
                clear p0 p1 p2 y0 y1 y2 HP10 HS10 HQ
                by_cases hold : at_ < (base : Int)
                · go_wp2_with (first
                    | (go_at_call 14; refine (HI2.out.1.sinceOld at_ hold).mono ?_; rintro e V1 ⟨rfl, hw⟩; have HV1 := hide (hw ▸ HI2.out); clear hw; obtain ⟨a0, a2, a3, -, -, -⟩ := HV1.out.1.box.cells)
                    | (go_at_call 15; refine (rsince_old at_ u (nL) capL (base : Nat) M V1 hold).mono ?_; rintro e V2 ⟨rfl, hb⟩; have HV2 := hide (HV1.out.seen hb); clear hb)
                    | (go_at_call 16; refine (texts_same none none [] 0 0 0 V2 rfl (by omega) (.inl rfl) (.inl rfl)).mono ?_; rintro e V3 ⟨rfl, q3, hw3⟩; have HV3 := hide (HV2.out.drewN q3); rw [← hw3] at HV3; clear hw3))
                  go_roundw
                  case rel => exact ⟨k2 + 1, by go_num, by omega, HV3⟩
                  case measure => simp [intOf]; omega
                · by_cases hah : ((nL : Nat) : Int) < at_
                  · go_wp2_with (first
                      | (go_at_call 14; refine (HI2.out.1.sinceAhead at_ hb9 hbn hah).mono ?_; rintro e V1 ⟨rfl, q, hw⟩; have HV1 := hide (HI2.out.drewN q); rw [← hw] at HV1; clear hw; obtain ⟨a0, a2, a3, -, -, -⟩ := HV1.out.1.box.cells)
                      | (go_at_call 15; refine (rsince_ahead at_ u (nL) capL (base : Nat) M V1 (by omega) (by omega)).mono ?_; rintro e V2 ⟨rfl, hb⟩; have HV2 := hide (HV1.out.seen hb); clear hb)
                      | (go_at_call 16; refine (texts_same none none [] 0 0 0 V2 rfl (by omega) (.inl rfl) (.inl rfl)).mono ?_; rintro e V3 ⟨rfl, q3, hw3⟩; have HV3 := hide (HV2.out.drewN q3); rw [← hw3] at HV3; clear hw3))
                    go_roundw
                    case rel => exact ⟨k2 + 1, by go_num, by omega, HV3⟩
                    case measure => simp [intOf]; omega
                  · obtain ⟨kk, rfl⟩ : ∃ kk : Nat, at_ = (kk : Int) := ⟨at_.toNat, by omega⟩
                    obtain ⟨dd, hdd⟩ : ∃ dd, nL - kk = dd := ⟨_, rfl⟩
                    have hkn : kk ≤ nL := by omega
                    have hkb : base + (kk - base) = kk := by omega
                    have HSO := hide (HI2.out.1.sinceOk (kk - base) kk dd hkb hdd hb9 hkn)
                    have hrs := rsince_ok kk u (nL) capL (base : Nat) M
                    rw [hdd] at hrs
                    have HRS := hide fun W => hrs W (by omega) hkn
                    clear hrs
                    generalize capL - kk = cc at *
                    go_wp2_with (first
                      | (go_at_call 14; refine HSO.out.mono ?_; rintro e V1 ⟨⟨a4, c4, rfl, hl4⟩, hb⟩; have HV1 := hide (HI2.out.seen hb); have HL4 := hide hl4; clear hb hl4; obtain ⟨a0, a2, a3, -, -, -⟩ := HV1.out.1.box.cells)
                      | (go_at_call 15; refine (HRS.out V1).mono ?_; rintro e V2 ⟨rfl, hb⟩; have HV2 := hide (HV1.out.seen hb); have HL5 := hide (HL4.out.block hb); clear hb)
                      | (go_at_call 16; refine (texts_same _ _ ((L).drop kk) dd _ _ V2 (by rw [List.length_drop, HV2.out.1.len]; exact hdd) (by have := HNI.out; omega) HL5.out (HV2.out.1.ls.ls.drop _ kk (by rw [HV2.out.1.len]; exact HV2.out.1.cap_))).mono ?_; rintro e V3 ⟨rfl, q3, hw3⟩; have HV3 := hide (HV2.out.drewN q3); rw [← hw3] at HV3; clear hw3))
                    go_roundw
                    case rel => exact ⟨k2 + 1, by go_num, by omega, HV3⟩
                    case measure => simp [intOf]; omega
              · obtain rfl : k2 = 3 := by omega
                go_wp2
                go_roundw
                case rel => exact ⟨i + 1, by go_num, by omega, hide ⟨r, base, L, u, nL, capL, HI2.out.1, hbn, by have := HNJ.out; omega⟩⟩
                case measure => simp [intOf]; omega
          · obtain ⟨k, rfl⟩ : ∃ k : Nat, nn = ((base + k : Nat) : Int) := ⟨(nn - base).toNat, by omega⟩
            have hk1 : 1 ≤ k := by omega
            have hk2 : base + k ≤ nL := by omega
            have ht8 := HPA.out.trims k HSA.out (by have := HBN.out; have := HNI.out; omega) hk1 (by rw [List.length_drop, HPA.out.len]; omega)
            rw [List.drop_drop] at ht8
            have HT8 := hide ht8
            have HRT := hide fun W => rtrim_some k base nL capL u M W (by have := HNI.out; omega) hk1 hk2
            have HBN := hide hk2
            clear ht8 hno hk1 hk2
            generalize base + k = B2 at *
            go_wp2_with (first
              | (go_at_call 8; refine HT8.out.mono ?_; rintro e W2 ⟨rfl, hp2, hs2⟩; have HP2 := hide hp2; have HS2 := hide hs2; obtain ⟨c0, c1, c2, f0, f1, f2⟩ := hp2.box.cells; obtain ⟨y0, y1, y2⟩ := hs2.cells; clear hp2 hs2)
              | (go_at_call 9; refine (HRT.out W2).mono ?_; rintro e W3 ⟨rfl, hb3⟩; have HP3 := hide (HP2.out.seen hb3); have HS3 := hide (HS2.out.seen hb3); obtain ⟨g0, g1, g2, k0, k1, k2⟩ := HP3.out.box.cells; obtain ⟨z0, z1, z2⟩ := HS3.out.cells; clear hb3))
            have HP9 := hide (HP3.out.lay (u' := u) (n' := nL) (cap' := capL) (br' := B2) (L' := L) HP3.out.ls HP3.out.len HP3.out.cap_)
            have HS9 := hide (HS3.out.lay u nL capL B2 M)
            clear g0 g1 g2 k0 k1 k2 z0 z1 z2 c0 c1 c2 f0 f1 f2 y0 y1 y2 d0 d1 d2 HP2 HS2 HPA HSA HP3 HS3
            generalize hW9 : laid W3 bR u nL capL B2 M = W9 at *
            unfold laid at hW9
            rw [hW9]
            clear hW9
            have hbn : B2 ≤ nL := HBN.out
            have hb9 : B2 ≤ 1000000 := by have := HNI.out; omega
            have hH := fun q => HP9.out.head hb9 hbn q
            have hBs := fun q => HP9.out.base_ q
            have HHH := hide hH
            have HBB := hide hBs
            clear hH hBs
            obtain ⟨p0, p1, p2, -, -, -⟩ := HP9.out.box.cells
            obtain ⟨y0, y1, y2⟩ := HS9.out.cells
            go_quiet (first | (go_at_call 12; exact Calls.quiet_of (HBB.out _)) | (go_at_call 13; exact Calls.quiet_of (HHH.out _)))
            have HP10 := hide (HP9.out.drewN nq)
            have HS10 := hide (HS9.out.drewN nq)
            clear p0 p1 p2 y0 y1 y2 HBB HHH HP9 HS9
            generalize W9.drewN nq = W10 at *
            obtain ⟨p0, p1, p2, -, -, -⟩ := HP10.out.box.cells
            obtain ⟨y0, y1, y2⟩ := HS10.out.cells
            have HQ := hide (Q3.new rev (B2 : Int) HP10.out)
            generalize hbA : W10.heap.size = bA at *
            go_wp2
            go_loopw [111] (fun z wr2 => ∃ k2 : Nat, z = .int .i64 (k2 : Int) ∧ k2 ≤ 3 ∧ Hid (Q3 w wr2 (w.heap.size + 1) w.heap.size M bR r B2 (L) u nL capL bA rev (B2 : Int))) (fun z _ => 3 - (intOf z).toNat)
            case atStart => exact ⟨0, rfl, by omega, HQ⟩
            case round =>
              obtain ⟨k2, rfl, hk2, HI2⟩ := hrel
              by_cases hlt2 : k2 < 3
              · obtain ⟨at_, ha⟩ := HI2.out.at_ hlt2
                obtain ⟨v0, v1, v2, -, -, -⟩ := HI2.out.1.box.cells
                clear p0 p1 p2 y0 y1 y2 HP10 HS10 HQ
                by_cases hold : at_ < (B2 : Int)
                · go_wp2_with (first
                    | (go_at_call 14; refine (HI2.out.1.sinceOld at_ hold).mono ?_; rintro e V1 ⟨rfl, hw⟩; have HV1 := hide (hw ▸ HI2.out); clear hw; obtain ⟨a0, a2, a3, -, -, -⟩ := HV1.out.1.box.cells)
                    | (go_at_call 15; refine (rsince_old at_ u (nL) capL (B2 : Nat) M V1 hold).mono ?_; rintro e V2 ⟨rfl, hb⟩; have HV2 := hide (HV1.out.seen hb); clear hb)
                    | (go_at_call 16; refine (texts_same none none [] 0 0 0 V2 rfl (by omega) (.inl rfl) (.inl rfl)).mono ?_; rintro e V3 ⟨rfl, q3, hw3⟩; have HV3 := hide (HV2.out.drewN q3); rw [← hw3] at HV3; clear hw3))
                  go_roundw
                  case rel => exact ⟨k2 + 1, by go_num, by omega, HV3⟩
                  case measure => simp [intOf]; omega
                · by_cases hah : ((nL : Nat) : Int) < at_
                  · go_wp2_with (first
                      | (go_at_call 14; refine (HI2.out.1.sinceAhead at_ hb9 hbn hah).mono ?_; rintro e V1 ⟨rfl, q, hw⟩; have HV1 := hide (HI2.out.drewN q); rw [← hw] at HV1; clear hw; obtain ⟨a0, a2, a3, -, -, -⟩ := HV1.out.1.box.cells)
                      | (go_at_call 15; refine (rsince_ahead at_ u (nL) capL (B2 : Nat) M V1 (by omega) (by omega)).mono ?_; rintro e V2 ⟨rfl, hb⟩; have HV2 := hide (HV1.out.seen hb); clear hb)
                      | (go_at_call 16; refine (texts_same none none [] 0 0 0 V2 rfl (by omega) (.inl rfl) (.inl rfl)).mono ?_; rintro e V3 ⟨rfl, q3, hw3⟩; have HV3 := hide (HV2.out.drewN q3); rw [← hw3] at HV3; clear hw3))
                    go_roundw
                    case rel => exact ⟨k2 + 1, by go_num, by omega, HV3⟩
                    case measure => simp [intOf]; omega
                  · obtain ⟨kk, rfl⟩ : ∃ kk : Nat, at_ = (kk : Int) := ⟨at_.toNat, by omega⟩
                    obtain ⟨dd, hdd⟩ : ∃ dd, nL - kk = dd := ⟨_, rfl⟩
                    have hkn : kk ≤ nL := by omega
                    have hkb : B2 + (kk - B2) = kk := by omega
                    have HSO := hide (HI2.out.1.sinceOk (kk - B2) kk dd hkb hdd hb9 hkn)
                    have hrs := rsince_ok kk u (nL) capL (B2 : Nat) M
                    rw [hdd] at hrs
                    have HRS := hide fun W => hrs W (by omega) hkn
                    clear hrs
                    generalize capL - kk = cc at *
                    go_wp2_with (first
                      | (go_at_call 14; refine HSO.out.mono ?_; rintro e V1 ⟨⟨a4, c4, rfl, hl4⟩, hb⟩; have HV1 := hide (HI2.out.seen hb); have HL4 := hide hl4; clear hb hl4; obtain ⟨a0, a2, a3, -, -, -⟩ := HV1.out.1.box.cells)
                      | (go_at_call 15; refine (HRS.out V1).mono ?_; rintro e V2 ⟨rfl, hb⟩; have HV2 := hide (HV1.out.seen hb); have HL5 := hide (HL4.out.block hb); clear hb)
                      | (go_at_call 16; refine (texts_same _ _ ((L).drop kk) dd _ _ V2 (by rw [List.length_drop, HV2.out.1.len]; exact hdd) (by have := HNI.out; omega) HL5.out (HV2.out.1.ls.ls.drop _ kk (by rw [HV2.out.1.len]; exact HV2.out.1.cap_))).mono ?_; rintro e V3 ⟨rfl, q3, hw3⟩; have HV3 := hide (HV2.out.drewN q3); rw [← hw3] at HV3; clear hw3))
                    go_roundw
                    case rel => exact ⟨k2 + 1, by go_num, by omega, HV3⟩
                    case measure => simp [intOf]; omega
              · obtain rfl : k2 = 3 := by omega
                go_wp2
                go_roundw
                case rel => exact ⟨i + 1, by go_num, by omega, hide ⟨r, B2, L, u, nL, capL, HI2.out.1, hbn, by have := HNJ.out; omega⟩⟩
                case measure => simp [intOf]; omega
        | false =>
          by_cases hfull : nL - base = M
          · have hfi : (M : Int) ≤ (nL : Int) - (base : Int) := by have := HBN.out; omega
            have HFI := hide hfi
            have HFU := hide hfull
            clear hfi hfull
            go_wp2_with (first
              | (go_at_call 10; refine (HPA.out.appendsNot x HSA.out (by rw [List.length_drop, HPA.out.len]; exact HFU.out)).mono ?_; rintro e W2 ⟨rfl, hp2, hs2⟩; have HP2 := hide hp2; have HS2 := hide hs2; obtain ⟨c0, c1, c2, f0, f1, f2⟩ := hp2.box.cells; obtain ⟨y0, y1, y2⟩ := hs2.cells; clear hp2 hs2)
              | (go_at_call 11; refine (rappend_full x u nL capL base M W2 (by have := HNI.out; omega) HBN.out HFI.out).mono ?_; rintro e W3 ⟨rfl, hb3⟩; have HP3 := hide (HP2.out.seen hb3); have HS3 := hide (HS2.out.seen hb3); obtain ⟨g0, g1, g2, k0, k1, k2⟩ := HP3.out.box.cells; obtain ⟨z0, z1, z2⟩ := HS3.out.cells; clear hb3))
            have HP9 := hide (HP3.out.lay (u' := u) (n' := nL) (cap' := capL) (br' := base) (L' := L) HP3.out.ls HP3.out.len HP3.out.cap_)
            have HS9 := hide (HS3.out.lay u nL capL base M)
            clear g0 g1 g2 k0 k1 k2 z0 z1 z2 c0 c1 c2 f0 f1 f2 y0 y1 y2 d0 d1 d2 HP2 HS2 HPA HSA HP3 HS3
            generalize hW9 : laid W3 bR u nL capL base M = W9 at *
            unfold laid at hW9
            rw [hW9]
            clear hW9
            have hbn : base ≤ nL := HBN.out
            have hb9 : base ≤ 1000000 := by have := HNI.out; omega
            have hH := fun q => HP9.out.head hb9 hbn q
            have hBs := fun q => HP9.out.base_ q
            have HHH := hide hH
            have HBB := hide hBs
            clear hH hBs
            obtain ⟨p0, p1, p2, -, -, -⟩ := HP9.out.box.cells
            obtain ⟨y0, y1, y2⟩ := HS9.out.cells
            go_quiet (first | (go_at_call 12; exact Calls.quiet_of (HBB.out _)) | (go_at_call 13; exact Calls.quiet_of (HHH.out _)))
            have HP10 := hide (HP9.out.drewN nq)
            have HS10 := hide (HS9.out.drewN nq)
            clear p0 p1 p2 y0 y1 y2 HBB HHH HP9 HS9
            generalize W9.drewN nq = W10 at *
            obtain ⟨p0, p1, p2, -, -, -⟩ := HP10.out.box.cells
            obtain ⟨y0, y1, y2⟩ := HS10.out.cells
            have HQ := hide (Q3.new rev nn HP10.out)
            generalize hbA : W10.heap.size = bA at *
            go_wp2
            go_loopw [111] (fun z wr2 => ∃ k2 : Nat, z = .int .i64 (k2 : Int) ∧ k2 ≤ 3 ∧ Hid (Q3 w wr2 (w.heap.size + 1) w.heap.size M bR r base (L) u nL capL bA rev nn)) (fun z _ => 3 - (intOf z).toNat)
            case atStart => exact ⟨0, rfl, by omega, HQ⟩
            case round =>
              obtain ⟨k2, rfl, hk2, HI2⟩ := hrel
              by_cases hlt2 : k2 < 3
              · obtain ⟨at_, ha⟩ := HI2.out.at_ hlt2
                obtain ⟨v0, v1, v2, -, -, -⟩ := HI2.out.1.box.cells
                clear p0 p1 p2 y0 y1 y2 HP10 HS10 HQ
                by_cases hold : at_ < (base : Int)
                · go_wp2_with (first
                    | (go_at_call 14; refine (HI2.out.1.sinceOld at_ hold).mono ?_; rintro e V1 ⟨rfl, hw⟩; have HV1 := hide (hw ▸ HI2.out); clear hw; obtain ⟨a0, a2, a3, -, -, -⟩ := HV1.out.1.box.cells)
                    | (go_at_call 15; refine (rsince_old at_ u (nL) capL (base : Nat) M V1 hold).mono ?_; rintro e V2 ⟨rfl, hb⟩; have HV2 := hide (HV1.out.seen hb); clear hb)
                    | (go_at_call 16; refine (texts_same none none [] 0 0 0 V2 rfl (by omega) (.inl rfl) (.inl rfl)).mono ?_; rintro e V3 ⟨rfl, q3, hw3⟩; have HV3 := hide (HV2.out.drewN q3); rw [← hw3] at HV3; clear hw3))
                  go_roundw
                  case rel => exact ⟨k2 + 1, by go_num, by omega, HV3⟩
                  case measure => simp [intOf]; omega
                · by_cases hah : ((nL : Nat) : Int) < at_
                  · go_wp2_with (first
                      | (go_at_call 14; refine (HI2.out.1.sinceAhead at_ hb9 hbn hah).mono ?_; rintro e V1 ⟨rfl, q, hw⟩; have HV1 := hide (HI2.out.drewN q); rw [← hw] at HV1; clear hw; obtain ⟨a0, a2, a3, -, -, -⟩ := HV1.out.1.box.cells)
                      | (go_at_call 15; refine (rsince_ahead at_ u (nL) capL (base : Nat) M V1 (by omega) (by omega)).mono ?_; rintro e V2 ⟨rfl, hb⟩; have HV2 := hide (HV1.out.seen hb); clear hb)
                      | (go_at_call 16; refine (texts_same none none [] 0 0 0 V2 rfl (by omega) (.inl rfl) (.inl rfl)).mono ?_; rintro e V3 ⟨rfl, q3, hw3⟩; have HV3 := hide (HV2.out.drewN q3); rw [← hw3] at HV3; clear hw3))
                    go_roundw
                    case rel => exact ⟨k2 + 1, by go_num, by omega, HV3⟩
                    case measure => simp [intOf]; omega
                  · obtain ⟨kk, rfl⟩ : ∃ kk : Nat, at_ = (kk : Int) := ⟨at_.toNat, by omega⟩
                    obtain ⟨dd, hdd⟩ : ∃ dd, nL - kk = dd := ⟨_, rfl⟩
                    have hkn : kk ≤ nL := by omega
                    have hkb : base + (kk - base) = kk := by omega
                    have HSO := hide (HI2.out.1.sinceOk (kk - base) kk dd hkb hdd hb9 hkn)
                    have hrs := rsince_ok kk u (nL) capL (base : Nat) M
                    rw [hdd] at hrs
                    have HRS := hide fun W => hrs W (by omega) hkn
                    clear hrs
                    generalize capL - kk = cc at *
                    go_wp2_with (first
                      | (go_at_call 14; refine HSO.out.mono ?_; rintro e V1 ⟨⟨a4, c4, rfl, hl4⟩, hb⟩; have HV1 := hide (HI2.out.seen hb); have HL4 := hide hl4; clear hb hl4; obtain ⟨a0, a2, a3, -, -, -⟩ := HV1.out.1.box.cells)
                      | (go_at_call 15; refine (HRS.out V1).mono ?_; rintro e V2 ⟨rfl, hb⟩; have HV2 := hide (HV1.out.seen hb); have HL5 := hide (HL4.out.block hb); clear hb)
                      | (go_at_call 16; refine (texts_same _ _ ((L).drop kk) dd _ _ V2 (by rw [List.length_drop, HV2.out.1.len]; exact hdd) (by have := HNI.out; omega) HL5.out (HV2.out.1.ls.ls.drop _ kk (by rw [HV2.out.1.len]; exact HV2.out.1.cap_))).mono ?_; rintro e V3 ⟨rfl, q3, hw3⟩; have HV3 := hide (HV2.out.drewN q3); rw [← hw3] at HV3; clear hw3))
                    go_roundw
                    case rel => exact ⟨k2 + 1, by go_num, by omega, HV3⟩
                    case measure => simp [intOf]; omega
              · obtain rfl : k2 = 3 := by omega
                go_wp2
                go_roundw
                case rel => exact ⟨i + 1, by go_num, by omega, hide ⟨r, base, L, u, nL, capL, HI2.out.1, hbn, by have := HNJ.out; omega⟩⟩
                case measure => simp [intOf]; omega
          · have hKM : nL - base ≤ M := by
              have h3 := HPA.out.jn.1.2.2
              obtain ⟨_, _, _, _, _, _, _, _, _, _, _, _, h3⟩ := h3
              rw [List.length_map, List.length_drop, HPA.out.len] at h3
              omega
            have hfi : ¬ (M : Int) ≤ (nL : Int) - (base : Int) := by have := HBN.out; omega
            have hnb : base + (L.drop base).length + 1 = nL + 1 := by rw [List.length_drop, HPA.out.len]; have := HBN.out; omega
            have hap := HPA.out.appends x HSA.out (by have := HBN.out; have := HNI.out; omega) (by rw [List.length_drop, HPA.out.len]; omega)
            rw [hnb] at hap
            have hdr : (L ++ [x]).drop base = L.drop base ++ [x] := List.drop_append_of_le_length (by rw [HPA.out.len]; exact HBN.out)
            rw [← hdr] at hap
            have HAP := hide hap
            have HFI := hide hfi
            have HBO := hide HBN.out
            have HNO := hide HNI.out
            have HBN := hide (show base ≤ nL + 1 by have := HBN.out; omega)
            have HNI := hide (show nL + 1 ≤ 150 by have := HNJ.out; omega)
            have HNJ := hide (show nL + 1 ≤ i + 1 by have := HNJ.out; omega)
            have HL3 := hide (show (L ++ [x]).length = nL + 1 by rw [List.length_append, HPA.out.len]; rfl)
            clear hap hfi hfull hdr hnb hKM
            generalize hn3 : nL + 1 = n3 at *
            generalize hL3 : L ++ [x] = L3 at *
            have HN3 := hide hn3
            have HE3 := hide hL3
            clear hn3 hL3
            go_wp2_with (first
              | (go_at_call 10; refine HAP.out.mono ?_; rintro e W2 ⟨rfl, r2, hp2, hs2⟩; have HP2 := hide hp2; have HS2 := hide hs2; obtain ⟨c0, c1, c2, f0, f1, f2⟩ := hp2.box.cells; obtain ⟨y0, y1, y2⟩ := hs2.cells; clear hp2 hs2)
              | (go_at_call 11; go_loud (have hra := P3.rappends x HP2.out (by have := HNO.out; omega) HBO.out (by have := HFI.out; omega); rw [HN3.out, HE3.out] at hra; refine hra.mono ?_); rintro e W3 ⟨⟨u3, c3, rfl, hc3, hls3⟩, hb3⟩; have HP3 := hide (HP2.out.seen hb3); have HS3 := hide (HS2.out.seen hb3); have HC3 := hide hc3; have HLS3 := hide hls3; obtain ⟨g0, g1, g2, k0, k1, k2⟩ := HP3.out.box.cells; obtain ⟨z0, z1, z2⟩ := HS3.out.cells; clear hb3 hc3 hls3 hra))
            have HP9 := hide (HP3.out.lay (u' := u3) (n' := n3) (cap' := c3) (br' := base) (L' := L3) HLS3.out HL3.out HC3.out)
            have HS9 := hide (HS3.out.lay u3 n3 c3 base M)
            clear g0 g1 g2 k0 k1 k2 z0 z1 z2 c0 c1 c2 f0 f1 f2 y0 y1 y2 d0 d1 d2 HP2 HS2 HPA HSA HP3 HS3
            generalize hW9 : laid W3 bR u3 n3 c3 base M = W9 at *
            unfold laid at hW9
            rw [hW9]
            clear hW9
            have hbn : base ≤ n3 := HBN.out
            have hb9 : base ≤ 1000000 := by have := HNI.out; omega
            have hH := fun q => HP9.out.head hb9 hbn q
            have hBs := fun q => HP9.out.base_ q
            have HHH := hide hH
            have HBB := hide hBs
            clear hH hBs
            obtain ⟨p0, p1, p2, -, -, -⟩ := HP9.out.box.cells
            obtain ⟨y0, y1, y2⟩ := HS9.out.cells
            go_quiet (first | (go_at_call 12; exact Calls.quiet_of (HBB.out _)) | (go_at_call 13; exact Calls.quiet_of (HHH.out _)))
            have HP10 := hide (HP9.out.drewN nq)
            have HS10 := hide (HS9.out.drewN nq)
            clear p0 p1 p2 y0 y1 y2 HBB HHH HP9 HS9
            generalize W9.drewN nq = W10 at *
            obtain ⟨p0, p1, p2, -, -, -⟩ := HP10.out.box.cells
            obtain ⟨y0, y1, y2⟩ := HS10.out.cells
            have HQ := hide (Q3.new rev nn HP10.out)
            generalize hbA : W10.heap.size = bA at *
            go_wp2
            go_loopw [111] (fun z wr2 => ∃ k2 : Nat, z = .int .i64 (k2 : Int) ∧ k2 ≤ 3 ∧ Hid (Q3 w wr2 (w.heap.size + 1) w.heap.size M bR r2 base (L3) u3 n3 c3 bA rev nn)) (fun z _ => 3 - (intOf z).toNat)
            case atStart => exact ⟨0, rfl, by omega, HQ⟩
            case round =>
              obtain ⟨k2, rfl, hk2, HI2⟩ := hrel
              by_cases hlt2 : k2 < 3
              · obtain ⟨at_, ha⟩ := HI2.out.at_ hlt2
                obtain ⟨v0, v1, v2, -, -, -⟩ := HI2.out.1.box.cells
                clear p0 p1 p2 y0 y1 y2 HP10 HS10 HQ
                by_cases hold : at_ < (base : Int)
                · go_wp2_with (first
                    | (go_at_call 14; refine (HI2.out.1.sinceOld at_ hold).mono ?_; rintro e V1 ⟨rfl, hw⟩; have HV1 := hide (hw ▸ HI2.out); clear hw; obtain ⟨a0, a2, a3, -, -, -⟩ := HV1.out.1.box.cells)
                    | (go_at_call 15; refine (rsince_old at_ u3 (n3) c3 (base : Nat) M V1 hold).mono ?_; rintro e V2 ⟨rfl, hb⟩; have HV2 := hide (HV1.out.seen hb); clear hb)
                    | (go_at_call 16; refine (texts_same none none [] 0 0 0 V2 rfl (by omega) (.inl rfl) (.inl rfl)).mono ?_; rintro e V3 ⟨rfl, q3, hw3⟩; have HV3 := hide (HV2.out.drewN q3); rw [← hw3] at HV3; clear hw3))
                  go_roundw
                  case rel => exact ⟨k2 + 1, by go_num, by omega, HV3⟩
                  case measure => simp [intOf]; omega
                · by_cases hah : ((n3 : Nat) : Int) < at_
                  · go_wp2_with (first
                      | (go_at_call 14; refine (HI2.out.1.sinceAhead at_ hb9 hbn hah).mono ?_; rintro e V1 ⟨rfl, q, hw⟩; have HV1 := hide (HI2.out.drewN q); rw [← hw] at HV1; clear hw; obtain ⟨a0, a2, a3, -, -, -⟩ := HV1.out.1.box.cells)
                      | (go_at_call 15; refine (rsince_ahead at_ u3 (n3) c3 (base : Nat) M V1 (by omega) (by omega)).mono ?_; rintro e V2 ⟨rfl, hb⟩; have HV2 := hide (HV1.out.seen hb); clear hb)
                      | (go_at_call 16; refine (texts_same none none [] 0 0 0 V2 rfl (by omega) (.inl rfl) (.inl rfl)).mono ?_; rintro e V3 ⟨rfl, q3, hw3⟩; have HV3 := hide (HV2.out.drewN q3); rw [← hw3] at HV3; clear hw3))
                    go_roundw
                    case rel => exact ⟨k2 + 1, by go_num, by omega, HV3⟩
                    case measure => simp [intOf]; omega
                  · obtain ⟨kk, rfl⟩ : ∃ kk : Nat, at_ = (kk : Int) := ⟨at_.toNat, by omega⟩
                    obtain ⟨dd, hdd⟩ : ∃ dd, n3 - kk = dd := ⟨_, rfl⟩
                    have hkn : kk ≤ n3 := by omega
                    have hkb : base + (kk - base) = kk := by omega
                    have HSO := hide (HI2.out.1.sinceOk (kk - base) kk dd hkb hdd hb9 hkn)
                    have hrs := rsince_ok kk u3 (n3) c3 (base : Nat) M
                    rw [hdd] at hrs
                    have HRS := hide fun W => hrs W (by omega) hkn
                    clear hrs
                    generalize c3 - kk = cc at *
                    go_wp2_with (first
                      | (go_at_call 14; refine HSO.out.mono ?_; rintro e V1 ⟨⟨a4, c4, rfl, hl4⟩, hb⟩; have HV1 := hide (HI2.out.seen hb); have HL4 := hide hl4; clear hb hl4; obtain ⟨a0, a2, a3, -, -, -⟩ := HV1.out.1.box.cells)
                      | (go_at_call 15; refine (HRS.out V1).mono ?_; rintro e V2 ⟨rfl, hb⟩; have HV2 := hide (HV1.out.seen hb); have HL5 := hide (HL4.out.block hb); clear hb)
                      | (go_at_call 16; refine (texts_same _ _ ((L3).drop kk) dd _ _ V2 (by rw [List.length_drop, HV2.out.1.len]; exact hdd) (by have := HNI.out; omega) HL5.out (HV2.out.1.ls.ls.drop _ kk (by rw [HV2.out.1.len]; exact HV2.out.1.cap_))).mono ?_; rintro e V3 ⟨rfl, q3, hw3⟩; have HV3 := hide (HV2.out.drewN q3); rw [← hw3] at HV3; clear hw3))
                    go_roundw
                    case rel => exact ⟨k2 + 1, by go_num, by omega, HV3⟩
                    case measure => simp [intOf]; omega
              · obtain rfl : k2 = 3 := by omega
                go_wp2
                go_roundw
                case rel => exact ⟨i + 1, by go_num, by omega, hide ⟨r2, base, L3, u3, n3, c3, HI2.out.1, hbn, by have := HNJ.out; omega⟩⟩
                case measure => simp [intOf]; omega
    · obtain rfl : i = m := by omega
      have HBL := hide hp.jn.2
      clear hp HI H0
      go_wp2_with (go_at_call 6; refine (HLV.out _).mono ?_; rintro e W2 ⟨rfl, hb⟩; have HB := hide (HBL.out.trans (hb.mono HBL.out.size)); clear hb)
      go_ret
      exact ⟨rfl, HB.out⟩
end Go.Proofs.Ytolidhjffminkaa.J
