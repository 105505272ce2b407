/- PieceBack, whatever the input. -/
import Derived.Test.YtpmijaplkbmbiaaBack
namespace Go.Proofs.Ytpmijaplkbmbiaa
open Go.RowKit Go.By Go.Shelf
set_option linter.unusedVariables false

set_option maxRecDepth 20000 in
set_option maxHeartbeats 4000000 in
theorem back_not (s0 : ByteArray) (a : Option Addr) (ss : List Stp) (cap : Nat) (f : Int) (x : ByteArray) (w : World) (hc : CameP w.heap.size w a ss) (hmx : ∀ i, (ss.getD i stp0).s.size ≤ 9223372036854775807) (hL : ¬ (Light ss ∧ s0.size ≤ 2000 ∧ x.size ≤ 500)) :
    Calls Try.prog 5 #[.string s0, .slice a ss.length cap, .int .i64 f, .string x] w fun e w' => e = .returned (.bool true) ∧ Below w.heap.size w w' := by
  have hli := light_any a ss cap w hc hmx
  clear hc hmx
  have HL := hide hL
  clear hL
  by_cases h2000 : s0.size ≤ 2000
  · have H2 := hide h2000
    have hn2 : ¬ (2000 : Int) < (s0.size : Int) := by omega
    by_cases h500 : x.size ≤ 500
    · have H5 := hide h500
      have hn5 : ¬ (500 : Int) < (x.size : Int) := by omega
      go_enter Try.func5, Try.ntmps5
      go_wp2_with fail
      refine hli.mono ?_
      rintro e w1 ⟨hb1, (⟨hl, rfl⟩ | ⟨hn, rfl⟩)⟩
      · exact absurd ⟨hl, H2.out, H5.out⟩ HL.out
      · have HB1 := hide hb1
        have hlv := lives_piece w1
        clear hli hb1 hn
        go_wp2_with (go_at_call 24; refine hlv.mono ?_; rintro e w7 ⟨rfl, hb7⟩; have HB7 := hide hb7; clear hb7 hlv)
        go_ret
        exact ⟨rfl, HB1.out.trans (HB7.out.mono HB1.out.size)⟩
    · have hn5 : (500 : Int) < (x.size : Int) := by omega
      go_enter Try.func5, Try.ntmps5
      go_wp2_with fail
      refine hli.mono ?_
      rintro e w1 ⟨hb1, (⟨hl, rfl⟩ | ⟨hl, rfl⟩)⟩
      all_goals
        have HB1 := hide hb1
        have hlv := lives_piece w1
        clear hli hb1 hl
        go_wp2_with (go_at_call 24; refine hlv.mono ?_; rintro e w7 ⟨rfl, hb7⟩; have HB7 := hide hb7; clear hb7 hlv)
        go_ret
        exact ⟨rfl, HB1.out.trans (HB7.out.mono HB1.out.size)⟩
  · have hn2 : (2000 : Int) < (s0.size : Int) := by omega
    go_enter Try.func5, Try.ntmps5
    go_wp2_with fail
    refine hli.mono ?_
    rintro e w1 ⟨hb1, (⟨hl, rfl⟩ | ⟨hl, rfl⟩)⟩
    all_goals
      have HB1 := hide hb1
      have hlv := lives_piece w1
      clear hli hb1 hl
      go_wp2_with (go_at_call 24; refine hlv.mono ?_; rintro e w7 ⟨rfl, hb7⟩; have HB7 := hide hb7; clear hb7 hlv)
      go_ret
      exact ⟨rfl, HB1.out.trans (HB7.out.mono HB1.out.size)⟩

theorem back_any (s0 : ByteArray) (a : Option Addr) (ss : List Stp) (cap : Nat) (f : Int) (x : ByteArray) (w : World) (hc : CameP w.heap.size w a ss) (hok : ∀ i, IntOk (ss.getD i stp0).at_) (hmx : ∀ i, (ss.getD i stp0).s.size ≤ 9223372036854775807) (hf : IntOk f) :
    Calls Try.prog 5 #[.string s0, .slice a ss.length cap, .int .i64 f, .string x] w fun e w' => e = .returned (.bool true) ∧ Below w.heap.size w w' := by
  by_cases h : Light ss ∧ s0.size ≤ 2000 ∧ x.size ≤ 500
  · exact back_go s0 a ss cap f x w hc hok hmx h.1 h.2.1 h.2.2 hf
  · exact back_not s0 a ss cap f x w hc hmx h

end Go.Proofs.Ytpmijaplkbmbiaa
