/- Any bytes are read, one thing behind the other, in any order of kinds, as the document says: whatever comes in, the call VaryReads returns true and writes nothing that was there. -/
import Derived.Test.YtaichjkenfnkbaaRefReads2
import Derived.Test.YtaichjkenfnkbaaNobody
namespace Vary
theorem num_within {l : List Nat} {at_ n k : Nat} (hl : ∀ c ∈ l.drop at_, c < 256) (h : num (l.drop at_) = some (n, k)) (ha : at_ ≤ l.length) : 0 < k ∧ at_ + k ≤ l.length := by
  have := num_back hl h
  have h2 := this.2.2.2.2
  simp at h2
  exact ⟨this.2.2.1, by omega⟩
theorem txt_within {l : List Nat} {at_ k : Nat} {s : List Nat} (hl : ∀ c ∈ l.drop at_, c < 256) (h : txt (l.drop at_) = some (s, k)) (ha : at_ ≤ l.length) : 0 < k ∧ at_ + k ≤ l.length := by
  unfold txt at h
  cases hn : num (l.drop at_) with
  | none => rw [hn] at h; cases h
  | some p =>
    obtain ⟨n, k'⟩ := p
    rw [hn] at h
    simp only [] at h
    split at h
    · rename_i hc
      cases h
      have h2 := num_within hl hn ha
      simp at hc
      omega
    · cases h
end Vary
namespace Go.Proofs.Ytaichjkenfnkbaa
open Go.RowKit Go.By
set_option linter.unusedVariables false

theorem Num_fail (g : Nat) (l : List Nat) (ok : Bool) (w : World) (hR : Rd w g l ok) (hl : ∀ c ∈ l, c < 256) (hm : l.length ≤ 20000) (hN : Vary.num l = none) :
    Calls Try.prog 20 #[.pointer (some ⟨g, 0, none⟩)] w fun e w' => e = .returned (.int .i64 0) ∧ Turn g w w' ∧ Rd w' g [] false := by
  refine (Num_any g l ok w hR hl hm).mono ?_
  rintro e w' ⟨z, rfl, ht, ⟨n, k, h1, -⟩ | ⟨-, rfl, hr⟩⟩
  · rw [hN] at h1; cases h1
  · exact ⟨rfl, ht, hr⟩

theorem Num_good (g : Nat) (l : List Nat) (ok : Bool) (w : World) (hR : Rd w g l ok) (hl : ∀ c ∈ l, c < 256) (hm : l.length ≤ 20000) {n k : Nat} (hN : Vary.num l = some (n, k)) :
    Calls Try.prog 20 #[.pointer (some ⟨g, 0, none⟩)] w fun e w' => e = .returned (.int .i64 (n : Int)) ∧ Turn g w w' ∧ Rd w' g (l.drop k) ok := by
  refine (Num_any g l ok w hR hl hm).mono ?_
  rintro e w' ⟨z, rfl, ht, ⟨n', k', h1, rfl, hr⟩ | ⟨h1, -⟩⟩
  · rw [hN] at h1; cases h1; exact ⟨rfl, ht, hr⟩
  · rw [hN] at h1; cases h1

theorem Signed_fail (g : Nat) (l : List Nat) (ok : Bool) (w : World) (hR : Rd w g l ok) (hl : ∀ c ∈ l, c < 256) (hm : l.length ≤ 20000) (hN : Vary.num l = none) :
    Calls Try.prog 21 #[.pointer (some ⟨g, 0, none⟩)] w fun e w' => e = .returned (.int .i64 0) ∧ Turn g w w' ∧ Rd w' g [] false := by
  refine (Signed_any g l ok w hR hl hm).mono ?_
  rintro e w' ⟨z, rfl, ht, ⟨n, k, h1, -⟩ | ⟨-, rfl, hr⟩⟩
  · rw [hN] at h1; cases h1
  · exact ⟨rfl, ht, hr⟩

theorem Signed_good (g : Nat) (l : List Nat) (ok : Bool) (w : World) (hR : Rd w g l ok) (hl : ∀ c ∈ l, c < 256) (hm : l.length ≤ 20000) {n k : Nat} (hN : Vary.num l = some (n, k)) :
    Calls Try.prog 21 #[.pointer (some ⟨g, 0, none⟩)] w fun e w' => e = .returned (.int .i64 (Vary.sgn (n : Int))) ∧ Turn g w w' ∧ Rd w' g (l.drop k) ok := by
  refine (Signed_any g l ok w hR hl hm).mono ?_
  rintro e w' ⟨z, rfl, ht, ⟨n', k', h1, rfl, hr⟩ | ⟨h1, -⟩⟩
  · rw [hN] at h1; cases h1; exact ⟨rfl, ht, hr⟩
  · rw [hN] at h1; cases h1

theorem Text_fail (g : Nat) (l : List Nat) (ok : Bool) (w : World) (hR : Rd w g l ok) (hl : ∀ c ∈ l, c < 256) (hm : l.length ≤ 20000) (hN : Vary.txt l = none) :
    Calls Try.prog 22 #[.pointer (some ⟨g, 0, none⟩)] w fun e w' => e = .returned (.string { data := #[] }) ∧ Turn g w w' ∧ Rd w' g [] false := by
  refine (Text_any g l ok w hR hl hm).mono ?_
  rintro e w' ⟨z, rfl, ht, ⟨k, h1, -⟩ | ⟨-, rfl, hr⟩⟩
  · rw [hN] at h1; cases h1
  · exact ⟨rfl, ht, hr⟩

theorem Text_good (g : Nat) (l : List Nat) (ok : Bool) (w : World) (hR : Rd w g l ok) (hl : ∀ c ∈ l, c < 256) (hm : l.length ≤ 20000) {s : List Nat} {k : Nat} (hN : Vary.txt l = some (s, k)) :
    Calls Try.prog 22 #[.pointer (some ⟨g, 0, none⟩)] w fun e w' => e = .returned (.string (str s)) ∧ Turn g w w' ∧ Rd w' g (l.drop k) ok := by
  refine (Text_any g l ok w hR hl hm).mono ?_
  rintro e w' ⟨z, rfl, ht, ⟨k', h1, hr⟩ | ⟨h1, -⟩⟩
  · rw [hN] at h1; cases h1; exact ⟨rfl, ht, hr⟩
  · rw [hN] at h1; cases h1

theorem Done_at (g : Nat) (l : List Nat) (ok d : Bool) (w : World) (hR : Rd w g l ok) (hd : (ok && decide (l = [])) = d) :
    Calls Try.prog 25 #[.pointer (some ⟨g, 0, none⟩)] w fun e w' => e = .returned (.bool d) ∧ w' = w := by
  subst hd; exact Done_any g l ok w hR

theorem Left_as (g : Nat) (l : List Nat) (ok : Bool) (z : Int) (w : World) (hR : Rd w g l ok) (hz : (l.length : Int) = z) :
    Calls Try.prog 24 #[.pointer (some ⟨g, 0, none⟩)] w fun e w' => e = .returned (.int .i64 z) ∧ w' = w := by
  subst hz; exact Left_any g l ok w hR

theorem refNum_at (a : Option Addr) (l : List Nat) (len cap n k : Nat) (w : World) (hlen : l.length = len) (hL : Lies w a l) (hm : len ≤ 20000) (hr : Vary.refN l = (n, k)) :
    Calls Try.prog 17 #[.slice a len cap] w fun e w' => e = .returned (.tuple #[.int .i64 (n : Int), .int .i64 (k : Int)]) ∧ w' = w := by
  have := refNum_any a l len cap w hlen hL hm
  rw [hr] at this; exact this

theorem refSigned_at (a : Option Addr) (l : List Nat) (len cap n k : Nat) (w : World) (hlen : l.length = len) (hL : Lies w a l) (hm : len ≤ 20000) (hr : Vary.refN l = (n, k)) :
    Calls Try.prog 18 #[.slice a len cap] w fun e w' => e = .returned (.tuple #[.int .i64 (Vary.sgn (n : Int)), .int .i64 (k : Int)]) ∧ w' = w := by
  have := refSigned_any a l len cap w hlen hL hm
  rw [hr] at this; exact this

theorem refText_at (a : Option Addr) (l : List Nat) (len cap : Nat) (s : List Nat) (k : Nat) (w : World) (hlen : l.length = len) (hL : Lies w a l) (hm : len ≤ 20000) (hcap : len ≤ cap) (hr : Vary.refT l = (s, k)) :
    Calls Try.prog 19 #[.slice a len cap] w fun e w' => e = .returned (.tuple #[.string (str s), .int .i64 (k : Int)]) ∧ w' = w := by
  have := refText_any a l len cap w hlen hL hm hcap
  rw [hr] at this; exact this

theorem Lies.small {w : World} {a : Option Addr} {l : List Nat} (h : Lies w a l) : ∀ c ∈ l, c < 256 := h.1

set_option maxHeartbeats 4000000 in
set_option maxRecDepth 20000 in
theorem reads_walk (a : Option Addr) (l : List Nat) (cap : Nat) (ka : Option Addr) (ks : List Nat) (kcap : Nat) (w : World) (hL : Came w.heap.size w a l) (hK : Came w.heap.size w ka ks) (hcap : l.length ≤ cap) (hm : l.length ≤ 4000) (hkm : ks.length ≤ 200) :
    Calls Try.prog 4 #[.slice a l.length cap, .slice ka ks.length kcap] w fun e w' => e = .returned (.bool true) ∧ Below w.heap.size w w' := by
  have HL := hide hL
  have HK := hide hK
  clear hL hK
  go_enter Try.func4, Try.ntmps4
  go_wp2_with (go_at_call 16; refine (read_look a l cap _ HL.out).mono ?_; rintro e wm ⟨rfl, hr, hb⟩)
  have HR0 := hide hr
  have HB0 := hide hb
  clear hr hb
  go_wp2_with fail
  go_loopw [6, 7, 31] (fun x y z wr => ∃ (i at_ : Nat) (bad : Bool), i ≤ ks.length ∧ at_ ≤ l.length ∧ x = .int .i64 at_ ∧ y = .bool bad ∧ z = .int .i64 i ∧ Below w.heap.size w wr ∧ Rd wr w.heap.size (if bad = true then [] else l.drop at_) (!bad)) (fun _ _ z _ => ks.length - (intOf z).toNat)
  case atStart => exact ⟨0, 0, false, by omega, by omega, rfl, rfl, rfl, HB0.out, HR0.out⟩
  case round =>
    clear HR0 HB0
    obtain ⟨i, at_, bad, hi, hat, rfl, rfl, rfl, hbel, hrd⟩ := hrel
    have HB := hide hbel
    have HR := hide hrd
    clear hbel hrd
    by_cases hlt : i < ks.length
    · obtain ⟨b, off, rfl, hc⟩ : ∃ b off, ka = some ⟨b, off, none⟩ ∧ ∀ i, i < ks.length → wr.cell? ⟨b, off + i, none⟩ = some (.int .u8 ((ks.getD i 0 : Nat) : Int)) := by
        rcases (HK.out.below HB.out).lies.2 with h | h
        · rw [h] at hlt; simp at hlt
        · exact h
      have hck := hc i hlt
      have hd := getD_lt HK.out.1 i
      generalize ks.getD i 0 = d at *
      have HLI : Hid (Lies wr (from_ a cap at_) (l.drop at_)) := lies_drop (HL.out.below HB.out).lies cap at_ hcap
      have hsl := slice_lo a l.length cap at_ hat
      clear hc
      have hk3 : d % 3 = 0 ∨ d % 3 = 1 ∨ d % 3 = 2 := by omega
      rcases hk3 with hk3 | hk3 | hk3
      · have q0 : (((d : Int) % 3) == 0) = true := by simp; omega
        obtain ⟨n0, k0, hrf⟩ : ∃ x y, Vary.refN (l.drop at_) = (x, y) := ⟨_, _, rfl⟩
        have HRF := hide hrf
        clear hrf
        cases bad with
        | true =>
          replace HR : Hid (Rd wr w.heap.size [] false) := HR
          go_wp2_with fail
          refine (refNum_at (from_ a cap at_) (l.drop at_) (l.length - at_) (cap - at_) n0 k0 wr (by simp) HLI.out (by omega) HRF.out).mono ?_
          rintro e w1 ⟨rfl, hw⟩
          subst hw
          go_wp2_with fail
          refine (Num_fail w.heap.size [] false _ HR.out (by simp) (by simp) rfl).mono ?_
          rintro e wa ⟨rfl, ta, ra⟩
          have TA := hide ta
          have RB := hide ra
          clear ta ra
          go_wp2_with (first
            | (go_at_call 23; refine (Bad_any w.heap.size [] false _ RB.out).mono ?_; rintro e w' ⟨rfl, hw⟩; subst hw)
            | (go_at_call 24; refine (Left_as w.heap.size [] false 0 _ RB.out rfl).mono ?_; rintro e w' ⟨rfl, hw⟩; subst hw)
            | (go_at_call 25; refine (Done_at w.heap.size [] false false _ RB.out rfl).mono ?_; rintro e w' ⟨rfl, hw⟩; subst hw))
          go_roundw
          case rel => exact ⟨i + 1, at_, true, by omega, by omega, rfl, rfl, by go_num, HB.out.trans (TA.out.below (Nat.le_refl _) HB.out.size), RB.out⟩
          case measure => simp [intOf]; omega
        | false =>
          replace HR : Hid (Rd wr w.heap.size (l.drop at_) true) := HR
          cases hno : Vary.num (l.drop at_) with
          | none =>
            have h1 := HRF.out
            unfold Vary.refN at h1
            rw [hno] at h1
            cases h1
            have HNO := hide hno
            clear hno
            go_wp2_with fail
            refine (refNum_at (from_ a cap at_) (l.drop at_) (l.length - at_) (cap - at_) 0 0 wr (by simp) HLI.out (by omega) HRF.out).mono ?_
            rintro e w1 ⟨rfl, hw⟩
            subst hw
            go_wp2_with fail
            refine (Num_fail w.heap.size (l.drop at_) true _ HR.out (Lies.small HLI.out) (by simp; omega) HNO.out).mono ?_
            rintro e wa ⟨rfl, ta, ra⟩
            have TA := hide ta
            have RB := hide ra
            clear ta ra
            go_wp2_with (first
              | (go_at_call 23; refine (Bad_any w.heap.size [] false _ RB.out).mono ?_; rintro e w' ⟨rfl, hw⟩; subst hw)
              | (go_at_call 24; refine (Left_as w.heap.size [] false 0 _ RB.out rfl).mono ?_; rintro e w' ⟨rfl, hw⟩; subst hw)
              | (go_at_call 25; refine (Done_at w.heap.size [] false false _ RB.out rfl).mono ?_; rintro e w' ⟨rfl, hw⟩; subst hw))
            go_roundw
            case rel => exact ⟨i + 1, at_, true, by omega, by omega, rfl, rfl, by go_num, HB.out.trans (TA.out.below (Nat.le_refl _) HB.out.size), RB.out⟩
            case measure => simp [intOf]; omega
          | some p =>
            obtain ⟨x1, x2⟩ := p
            have h1 := HRF.out
            unfold Vary.refN at h1
            rw [hno] at h1
            cases h1
            have HSO := hide hno

            have hkk : 0 < k0 ∧ at_ + k0 ≤ l.length := Vary.num_within (Lies.small HLI.out) hno hat
            have hk1 := hkk.1
            have hk2 := hkk.2
            have q4 : ((k0 : Int) == 0) = false := by simp; omega
            clear hno hkk
            by_cases hem : at_ + k0 = l.length
            · have hdn : (true && decide ((l.drop at_).drop k0 = [])) = true := by simp; omega
              have HDN := hide hdn
              have q5 : ((l.length : Int) - ((at_ : Int) + (k0 : Int)) == 0) = true := by simp; omega
              clear hdn
              go_wp2_with fail
              refine (refNum_at (from_ a cap at_) (l.drop at_) (l.length - at_) (cap - at_) n0 k0 wr (by simp) HLI.out (by omega) HRF.out).mono ?_
              rintro e w1 ⟨rfl, hw⟩
              subst hw
              go_wp2_with fail
              refine (Num_good w.heap.size (l.drop at_) true _ HR.out (Lies.small HLI.out) (by simp; omega) HSO.out).mono ?_
              rintro e wa ⟨rfl, ta, ra⟩
              have TA := hide ta
              have RB := hide ra
              clear ta ra
              go_wp2_with (first
                | (go_at_call 23; refine (Bad_any w.heap.size ((l.drop at_).drop k0) true _ RB.out).mono ?_; rintro e w' ⟨rfl, hw⟩; subst hw)
                | (go_at_call 24; refine (Left_as w.heap.size ((l.drop at_).drop k0) true ((l.length : Int) - ((at_ : Int) + (k0 : Int))) _ RB.out (by simp; omega)).mono ?_; rintro e w' ⟨rfl, hw⟩; subst hw)
                | (go_at_call 25; refine (Done_at w.heap.size ((l.drop at_).drop k0) true true _ RB.out HDN.out).mono ?_; rintro e w' ⟨rfl, hw⟩; subst hw))
              go_roundw
              case rel => exact ⟨i + 1, at_ + k0, false, by omega, by omega, by go_num, rfl, by go_num, HB.out.trans (TA.out.below (Nat.le_refl _) HB.out.size), by have := RB.out; rw [List.drop_drop] at this; exact this⟩
              case measure => simp [intOf]; omega
            · have hdn : (true && decide ((l.drop at_).drop k0 = [])) = false := by simp; omega
              have HDN := hide hdn
              have q5 : ((l.length : Int) - ((at_ : Int) + (k0 : Int)) == 0) = false := by simp; omega
              clear hdn
              go_wp2_with fail
              refine (refNum_at (from_ a cap at_) (l.drop at_) (l.length - at_) (cap - at_) n0 k0 wr (by simp) HLI.out (by omega) HRF.out).mono ?_
              rintro e w1 ⟨rfl, hw⟩
              subst hw
              go_wp2_with fail
              refine (Num_good w.heap.size (l.drop at_) true _ HR.out (Lies.small HLI.out) (by simp; omega) HSO.out).mono ?_
              rintro e wa ⟨rfl, ta, ra⟩
              have TA := hide ta
              have RB := hide ra
              clear ta ra
              go_wp2_with (first
                | (go_at_call 23; refine (Bad_any w.heap.size ((l.drop at_).drop k0) true _ RB.out).mono ?_; rintro e w' ⟨rfl, hw⟩; subst hw)
                | (go_at_call 24; refine (Left_as w.heap.size ((l.drop at_).drop k0) true ((l.length : Int) - ((at_ : Int) + (k0 : Int))) _ RB.out (by simp; omega)).mono ?_; rintro e w' ⟨rfl, hw⟩; subst hw)
                | (go_at_call 25; refine (Done_at w.heap.size ((l.drop at_).drop k0) true false _ RB.out HDN.out).mono ?_; rintro e w' ⟨rfl, hw⟩; subst hw))
              go_roundw
              case rel => exact ⟨i + 1, at_ + k0, false, by omega, by omega, by go_num, rfl, by go_num, HB.out.trans (TA.out.below (Nat.le_refl _) HB.out.size), by have := RB.out; rw [List.drop_drop] at this; exact this⟩
              case measure => simp [intOf]; omega
      · have q0 : (((d : Int) % 3) == 0) = false := by simp; omega
        have q1 : (((d : Int) % 3) == 1) = true := by simp; omega
        obtain ⟨n0, k0, hrf⟩ : ∃ x y, Vary.refN (l.drop at_) = (x, y) := ⟨_, _, rfl⟩
        have HRF := hide hrf
        clear hrf
        cases bad with
        | true =>
          replace HR : Hid (Rd wr w.heap.size [] false) := HR
          go_wp2_with fail
          refine (refSigned_at (from_ a cap at_) (l.drop at_) (l.length - at_) (cap - at_) n0 k0 wr (by simp) HLI.out (by omega) HRF.out).mono ?_
          rintro e w1 ⟨rfl, hw⟩
          subst hw
          go_wp2_with fail
          refine (Signed_fail w.heap.size [] false _ HR.out (by simp) (by simp) rfl).mono ?_
          rintro e wa ⟨rfl, ta, ra⟩
          have TA := hide ta
          have RB := hide ra
          clear ta ra
          go_wp2_with (first
            | (go_at_call 23; refine (Bad_any w.heap.size [] false _ RB.out).mono ?_; rintro e w' ⟨rfl, hw⟩; subst hw)
            | (go_at_call 24; refine (Left_as w.heap.size [] false 0 _ RB.out rfl).mono ?_; rintro e w' ⟨rfl, hw⟩; subst hw)
            | (go_at_call 25; refine (Done_at w.heap.size [] false false _ RB.out rfl).mono ?_; rintro e w' ⟨rfl, hw⟩; subst hw))
          go_roundw
          case rel => exact ⟨i + 1, at_, true, by omega, by omega, rfl, rfl, by go_num, HB.out.trans (TA.out.below (Nat.le_refl _) HB.out.size), RB.out⟩
          case measure => simp [intOf]; omega
        | false =>
          replace HR : Hid (Rd wr w.heap.size (l.drop at_) true) := HR
          cases hno : Vary.num (l.drop at_) with
          | none =>
            have h1 := HRF.out
            unfold Vary.refN at h1
            rw [hno] at h1
            cases h1
            have HNO := hide hno
            clear hno
            go_wp2_with fail
            refine (refSigned_at (from_ a cap at_) (l.drop at_) (l.length - at_) (cap - at_) 0 0 wr (by simp) HLI.out (by omega) HRF.out).mono ?_
            rintro e w1 ⟨rfl, hw⟩
            subst hw
            go_wp2_with fail
            refine (Signed_fail w.heap.size (l.drop at_) true _ HR.out (Lies.small HLI.out) (by simp; omega) HNO.out).mono ?_
            rintro e wa ⟨rfl, ta, ra⟩
            have TA := hide ta
            have RB := hide ra
            clear ta ra
            go_wp2_with (first
              | (go_at_call 23; refine (Bad_any w.heap.size [] false _ RB.out).mono ?_; rintro e w' ⟨rfl, hw⟩; subst hw)
              | (go_at_call 24; refine (Left_as w.heap.size [] false 0 _ RB.out rfl).mono ?_; rintro e w' ⟨rfl, hw⟩; subst hw)
              | (go_at_call 25; refine (Done_at w.heap.size [] false false _ RB.out rfl).mono ?_; rintro e w' ⟨rfl, hw⟩; subst hw))
            go_roundw
            case rel => exact ⟨i + 1, at_, true, by omega, by omega, rfl, rfl, by go_num, HB.out.trans (TA.out.below (Nat.le_refl _) HB.out.size), RB.out⟩
            case measure => simp [intOf]; omega
          | some p =>
            obtain ⟨x1, x2⟩ := p
            have h1 := HRF.out
            unfold Vary.refN at h1
            rw [hno] at h1
            cases h1
            have HSO := hide hno

            have hkk : 0 < k0 ∧ at_ + k0 ≤ l.length := Vary.num_within (Lies.small HLI.out) hno hat
            have hk1 := hkk.1
            have hk2 := hkk.2
            have q4 : ((k0 : Int) == 0) = false := by simp; omega
            clear hno hkk
            by_cases hem : at_ + k0 = l.length
            · have hdn : (true && decide ((l.drop at_).drop k0 = [])) = true := by simp; omega
              have HDN := hide hdn
              have q5 : ((l.length : Int) - ((at_ : Int) + (k0 : Int)) == 0) = true := by simp; omega
              clear hdn
              go_wp2_with fail
              refine (refSigned_at (from_ a cap at_) (l.drop at_) (l.length - at_) (cap - at_) n0 k0 wr (by simp) HLI.out (by omega) HRF.out).mono ?_
              rintro e w1 ⟨rfl, hw⟩
              subst hw
              go_wp2_with fail
              refine (Signed_good w.heap.size (l.drop at_) true _ HR.out (Lies.small HLI.out) (by simp; omega) HSO.out).mono ?_
              rintro e wa ⟨rfl, ta, ra⟩
              have TA := hide ta
              have RB := hide ra
              clear ta ra
              go_wp2_with (first
                | (go_at_call 23; refine (Bad_any w.heap.size ((l.drop at_).drop k0) true _ RB.out).mono ?_; rintro e w' ⟨rfl, hw⟩; subst hw)
                | (go_at_call 24; refine (Left_as w.heap.size ((l.drop at_).drop k0) true ((l.length : Int) - ((at_ : Int) + (k0 : Int))) _ RB.out (by simp; omega)).mono ?_; rintro e w' ⟨rfl, hw⟩; subst hw)
                | (go_at_call 25; refine (Done_at w.heap.size ((l.drop at_).drop k0) true true _ RB.out HDN.out).mono ?_; rintro e w' ⟨rfl, hw⟩; subst hw))
              go_roundw
              case rel => exact ⟨i + 1, at_ + k0, false, by omega, by omega, by go_num, rfl, by go_num, HB.out.trans (TA.out.below (Nat.le_refl _) HB.out.size), by have := RB.out; rw [List.drop_drop] at this; exact this⟩
              case measure => simp [intOf]; omega
            · have hdn : (true && decide ((l.drop at_).drop k0 = [])) = false := by simp; omega
              have HDN := hide hdn
              have q5 : ((l.length : Int) - ((at_ : Int) + (k0 : Int)) == 0) = false := by simp; omega
              clear hdn
              go_wp2_with fail
              refine (refSigned_at (from_ a cap at_) (l.drop at_) (l.length - at_) (cap - at_) n0 k0 wr (by simp) HLI.out (by omega) HRF.out).mono ?_
              rintro e w1 ⟨rfl, hw⟩
              subst hw
              go_wp2_with fail
              refine (Signed_good w.heap.size (l.drop at_) true _ HR.out (Lies.small HLI.out) (by simp; omega) HSO.out).mono ?_
              rintro e wa ⟨rfl, ta, ra⟩
              have TA := hide ta
              have RB := hide ra
              clear ta ra
              go_wp2_with (first
                | (go_at_call 23; refine (Bad_any w.heap.size ((l.drop at_).drop k0) true _ RB.out).mono ?_; rintro e w' ⟨rfl, hw⟩; subst hw)
                | (go_at_call 24; refine (Left_as w.heap.size ((l.drop at_).drop k0) true ((l.length : Int) - ((at_ : Int) + (k0 : Int))) _ RB.out (by simp; omega)).mono ?_; rintro e w' ⟨rfl, hw⟩; subst hw)
                | (go_at_call 25; refine (Done_at w.heap.size ((l.drop at_).drop k0) true false _ RB.out HDN.out).mono ?_; rintro e w' ⟨rfl, hw⟩; subst hw))
              go_roundw
              case rel => exact ⟨i + 1, at_ + k0, false, by omega, by omega, by go_num, rfl, by go_num, HB.out.trans (TA.out.below (Nat.le_refl _) HB.out.size), by have := RB.out; rw [List.drop_drop] at this; exact this⟩
              case measure => simp [intOf]; omega
      · have q0 : (((d : Int) % 3) == 0) = false := by simp; omega
        have q1 : (((d : Int) % 3) == 1) = false := by simp; omega
        obtain ⟨s0, k0, hrf⟩ : ∃ x y, Vary.refT (l.drop at_) = (x, y) := ⟨_, _, rfl⟩
        have HRF := hide hrf
        clear hrf
        cases bad with
        | true =>
          replace HR : Hid (Rd wr w.heap.size [] false) := HR
          go_wp2_with fail
          refine (refText_at (from_ a cap at_) (l.drop at_) (l.length - at_) (cap - at_) s0 k0 wr (by simp) HLI.out (by omega) (by omega) HRF.out).mono ?_
          rintro e w1 ⟨rfl, hw⟩
          subst hw
          go_wp2_with fail
          refine (Text_fail w.heap.size [] false _ HR.out (by simp) (by simp) rfl).mono ?_
          rintro e wa ⟨rfl, ta, ra⟩
          have TA := hide ta
          have RB := hide ra
          clear ta ra
          go_wp2_with (first
            | (go_at_call 23; refine (Bad_any w.heap.size [] false _ RB.out).mono ?_; rintro e w' ⟨rfl, hw⟩; subst hw)
            | (go_at_call 24; refine (Left_as w.heap.size [] false 0 _ RB.out rfl).mono ?_; rintro e w' ⟨rfl, hw⟩; subst hw)
            | (go_at_call 25; refine (Done_at w.heap.size [] false false _ RB.out rfl).mono ?_; rintro e w' ⟨rfl, hw⟩; subst hw))
          go_roundw
          case rel => exact ⟨i + 1, at_, true, by omega, by omega, rfl, rfl, by go_num, HB.out.trans (TA.out.below (Nat.le_refl _) HB.out.size), RB.out⟩
          case measure => simp [intOf]; omega
        | false =>
          replace HR : Hid (Rd wr w.heap.size (l.drop at_) true) := HR
          cases hno : Vary.txt (l.drop at_) with
          | none =>
            have h1 := HRF.out
            unfold Vary.refT at h1
            rw [hno] at h1
            cases h1
            have HNO := hide hno
            clear hno
            go_wp2_with fail
            refine (refText_at (from_ a cap at_) (l.drop at_) (l.length - at_) (cap - at_) [] 0 wr (by simp) HLI.out (by omega) (by omega) HRF.out).mono ?_
            rintro e w1 ⟨rfl, hw⟩
            subst hw
            go_wp2_with fail
            refine (Text_fail w.heap.size (l.drop at_) true _ HR.out (Lies.small HLI.out) (by simp; omega) HNO.out).mono ?_
            rintro e wa ⟨rfl, ta, ra⟩
            have TA := hide ta
            have RB := hide ra
            clear ta ra
            go_wp2_with (first
              | (go_at_call 23; refine (Bad_any w.heap.size [] false _ RB.out).mono ?_; rintro e w' ⟨rfl, hw⟩; subst hw)
              | (go_at_call 24; refine (Left_as w.heap.size [] false 0 _ RB.out rfl).mono ?_; rintro e w' ⟨rfl, hw⟩; subst hw)
              | (go_at_call 25; refine (Done_at w.heap.size [] false false _ RB.out rfl).mono ?_; rintro e w' ⟨rfl, hw⟩; subst hw))
            go_roundw
            case rel => exact ⟨i + 1, at_, true, by omega, by omega, rfl, rfl, by go_num, HB.out.trans (TA.out.below (Nat.le_refl _) HB.out.size), RB.out⟩
            case measure => simp [intOf]; omega
          | some p =>
            obtain ⟨x1, x2⟩ := p
            have h1 := HRF.out
            unfold Vary.refT at h1
            rw [hno] at h1
            cases h1
            have HSO := hide hno

            have hkk : 0 < k0 ∧ at_ + k0 ≤ l.length := Vary.txt_within (Lies.small HLI.out) hno hat
            have hk1 := hkk.1
            have hk2 := hkk.2
            have q4 : ((k0 : Int) == 0) = false := by simp; omega
            clear hno hkk
            by_cases hem : at_ + k0 = l.length
            · have hdn : (true && decide ((l.drop at_).drop k0 = [])) = true := by simp; omega
              have HDN := hide hdn
              have q5 : ((l.length : Int) - ((at_ : Int) + (k0 : Int)) == 0) = true := by simp; omega
              clear hdn
              go_wp2_with fail
              refine (refText_at (from_ a cap at_) (l.drop at_) (l.length - at_) (cap - at_) s0 k0 wr (by simp) HLI.out (by omega) (by omega) HRF.out).mono ?_
              rintro e w1 ⟨rfl, hw⟩
              subst hw
              go_wp2_with fail
              refine (Text_good w.heap.size (l.drop at_) true _ HR.out (Lies.small HLI.out) (by simp; omega) HSO.out).mono ?_
              rintro e wa ⟨rfl, ta, ra⟩
              have TA := hide ta
              have RB := hide ra
              clear ta ra
              go_wp2_with (first
                | (go_at_call 23; refine (Bad_any w.heap.size ((l.drop at_).drop k0) true _ RB.out).mono ?_; rintro e w' ⟨rfl, hw⟩; subst hw)
                | (go_at_call 24; refine (Left_as w.heap.size ((l.drop at_).drop k0) true ((l.length : Int) - ((at_ : Int) + (k0 : Int))) _ RB.out (by simp; omega)).mono ?_; rintro e w' ⟨rfl, hw⟩; subst hw)
                | (go_at_call 25; refine (Done_at w.heap.size ((l.drop at_).drop k0) true true _ RB.out HDN.out).mono ?_; rintro e w' ⟨rfl, hw⟩; subst hw))
              go_roundw
              case rel => exact ⟨i + 1, at_ + k0, false, by omega, by omega, by go_num, rfl, by go_num, HB.out.trans (TA.out.below (Nat.le_refl _) HB.out.size), by have := RB.out; rw [List.drop_drop] at this; exact this⟩
              case measure => simp [intOf]; omega
            · have hdn : (true && decide ((l.drop at_).drop k0 = [])) = false := by simp; omega
              have HDN := hide hdn
              have q5 : ((l.length : Int) - ((at_ : Int) + (k0 : Int)) == 0) = false := by simp; omega
              clear hdn
              go_wp2_with fail
              refine (refText_at (from_ a cap at_) (l.drop at_) (l.length - at_) (cap - at_) s0 k0 wr (by simp) HLI.out (by omega) (by omega) HRF.out).mono ?_
              rintro e w1 ⟨rfl, hw⟩
              subst hw
              go_wp2_with fail
              refine (Text_good w.heap.size (l.drop at_) true _ HR.out (Lies.small HLI.out) (by simp; omega) HSO.out).mono ?_
              rintro e wa ⟨rfl, ta, ra⟩
              have TA := hide ta
              have RB := hide ra
              clear ta ra
              go_wp2_with (first
                | (go_at_call 23; refine (Bad_any w.heap.size ((l.drop at_).drop k0) true _ RB.out).mono ?_; rintro e w' ⟨rfl, hw⟩; subst hw)
                | (go_at_call 24; refine (Left_as w.heap.size ((l.drop at_).drop k0) true ((l.length : Int) - ((at_ : Int) + (k0 : Int))) _ RB.out (by simp; omega)).mono ?_; rintro e w' ⟨rfl, hw⟩; subst hw)
                | (go_at_call 25; refine (Done_at w.heap.size ((l.drop at_).drop k0) true false _ RB.out HDN.out).mono ?_; rintro e w' ⟨rfl, hw⟩; subst hw))
              go_roundw
              case rel => exact ⟨i + 1, at_ + k0, false, by omega, by omega, by go_num, rfl, by go_num, HB.out.trans (TA.out.below (Nat.le_refl _) HB.out.size), by have := RB.out; rw [List.drop_drop] at this; exact this⟩
              case measure => simp [intOf]; omega
    · go_wp2_with (go_at_call 9; refine (lives_any _).mono ?_; rintro e w' ⟨rfl, hlv⟩)
      go_ret
      exact ⟨rfl, HB.out.trans (hlv.mono HB.out.size)⟩

set_option maxHeartbeats 400000 in
theorem reads_big (a : Option Addr) (n cap : Nat) (ka : Option Addr) (kn kcap : Nat) (w : World) (hm : 4000 < n ∨ 200 < kn) :
    Calls Try.prog 4 #[.slice a n cap, .slice ka kn kcap] w fun e w' => e = .returned (.bool true) ∧ Below w.heap.size w w' := by
  rcases hm with hm | hm
  · go_enter Try.func4, Try.ntmps4
    go_wp2_with (go_at_call 9; refine (lives_any _).mono ?_; rintro e w' ⟨rfl, hlv⟩)
    go_ret
    exact ⟨rfl, hlv⟩
  · by_cases hn : 4000 < n
    · go_enter Try.func4, Try.ntmps4
      go_wp2_with (go_at_call 9; refine (lives_any _).mono ?_; rintro e w' ⟨rfl, hlv⟩)
      go_ret
      exact ⟨rfl, hlv⟩
    · go_enter Try.func4, Try.ntmps4
      go_wp2_with (go_at_call 9; refine (lives_any _).mono ?_; rintro e w' ⟨rfl, hlv⟩)
      go_ret
      exact ⟨rfl, hlv⟩

theorem reads_all (a : Option Addr) (n cap : Nat) (zs : List Int) (ka : Option Addr) (kn kcap : Nat) (ys : List Int) (w : World) (h : IsRow .u8 w a n cap zs) (hk : IsRow .u8 w ka kn kcap ys) :
    Calls Try.prog 4 #[.slice a n cap, .slice ka kn kcap] w fun e w' => e = .returned (.bool true) ∧ Below w.heap.size w w' := by
  by_cases hm : n ≤ 4000 ∧ kn ≤ 200
  · obtain ⟨l, rfl, hc, hx, hg⟩ := came_of_row h
    obtain ⟨ks, rfl, hc2, hx2, hg2⟩ := came_of_row hk
    exact reads_walk a l cap ka ks kcap w hg hg2 hc hm.1 hm.2
  · exact reads_big a n cap ka kn kcap w (by omega)
end Go.Proofs.Ytaichjkenfnkbaa
