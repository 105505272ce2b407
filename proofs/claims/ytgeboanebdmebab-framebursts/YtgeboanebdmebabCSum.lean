/- The program's sum of bytes and the document's are one and the same function of the bytes. -/
import Derived.Test.YtgeboanebdmebabCStep
namespace Go.Proofs.Ytgeboanebdmebab.C
open Go.RowKit Go.By

theorem not_top (y : Nat) (h : y < 4294967296) : bits BinOp.xor IntKind.u32 IntKind.u32.max (y : Int) = ((y ^^^ Crc.top : Nat) : Int) := by
  have e : IntKind.u32.max = ((4294967295 : Nat) : Int) := by decide
  rw [e, u32_xor_nat _ _ (by omega) h, Nat.xor_comm]; rfl

theorem xor_top (y : Nat) (h : y < 4294967296) : bits BinOp.xor IntKind.u32 (y : Int) 4294967295 = ((y ^^^ Crc.top : Nat) : Int) :=
  u32_xor_nat y 4294967295 h (by omega)

set_option maxHeartbeats 400000 in
theorem sum_any (a : Option Addr) (l : List Nat) (cap : Nat) (w : World) (hL : Lies w a l) (hm : l.length ≤ 9223372036854775807) :
    Calls Try.prog 26 #[.slice a l.length cap] w fun e w' => e = .returned (.int .u32 (Crc.sum l)) ∧ w' = w := by
  obtain ⟨hb, hl⟩ := hL
  have HL := hide hl
  clear hl
  go_enter Try.func26, Try.ntmps26
  go_wp2
  go_loop [3, 8] (fun t i => ∃ k : Nat, k ≤ l.length ∧ i = .int .i64 k ∧ t = .int .u32 (Crc.run Crc.top (l.take k))) (fun _ i => l.length - (intOf i).toNat)
  case atStart => exact ⟨0, Nat.zero_le _, rfl, rfl⟩
  case round =>
    obtain ⟨k, hk, rfl, rfl⟩ := hrel
    have hr := Crc.run_lt (x := Crc.top) (l.take k) (by decide) (fun c h => hb c (List.mem_of_mem_take h))
    generalize hy : Crc.run Crc.top (l.take k) = y at *
    have HY := hide hy
    clear hy
    by_cases hlt : k < l.length
    · rcases HL.out with rfl | ⟨b, off, rfl, hc⟩
      · simp at hlt
      have hck := hc k hlt
      have hd := getD_lt hb k
      have HS : Hid (Crc.run Crc.top (l.take (k + 1)) = Crc.step y (l.getD k 0)) := by
        show _ = _
        rw [take_snoc l k hlt, Crc.run_snoc, HY.out]
      generalize l.getD k 0 = d at *
      clear hc hb HL
      go_wp2_with (go_at_call 34; refine (step_any _ _ _ (by omega) (by omega)).mono ?_; rintro e w' ⟨rfl, rfl⟩)
      go_round
      case rel => exact ⟨k + 1, by omega, by go_num, by rw [HS.out]⟩
      case measure => simp [intOf]; omega
    · have HF : Hid (Crc.sum l = y ^^^ Crc.top) := by
        show _ = _
        rw [← HY.out, List.take_of_length_le (by omega)]; rfl
      go_wp2
      go_ret
      exact ⟨ret_int (by rw [HF.out]; exact not_top y hr), rfl⟩

theorem sum_at (a : Option Addr) (l : List Nat) (n cap s : Nat) (w : World) (hn : l.length = n) (hs : Crc.sum l = s) (hL : Lies w a l) (hm : n ≤ 9223372036854775807) :
    Calls Try.prog 26 #[.slice a n cap] w fun e w' => e = .returned (.int .u32 s) ∧ w' = w := by
  subst hn; subst hs; exact sum_any a l cap w hL hm

end Go.Proofs.Ytgeboanebdmebab.C
