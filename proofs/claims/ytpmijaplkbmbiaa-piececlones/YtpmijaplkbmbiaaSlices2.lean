/- PieceSlices, whatever the input. -/
import Derived.Test.YtpmijaplkbmbiaaSlices
namespace Go.Proofs.Ytpmijaplkbmbiaa
open Go.RowKit Go.By Go.Shelf
set_option linter.unusedVariables false

set_option maxRecDepth 20000 in
set_option maxHeartbeats 4000000 in
theorem slices_not (s0 : ByteArray) (a : Option Addr) (ss : List Stp) (cap : Nat) (f t : Int) (w : World) (hc : CameP w.heap.size w a ss) (hmx : ∀ i, (ss.getD i stp0).s.size ≤ 9223372036854775807) (hm0 : s0.size ≤ 9223372036854775807) (hL : ¬ (Light ss ∧ s0.size ≤ 2000)) :
    Calls Try.prog 4 #[.string s0, .slice a ss.length cap, .int .i64 f, .int .i64 t] w fun e w' => e = .returned (.bool true) ∧ Below w.heap.size w w' := by
  have hli := light_any a ss cap w hc hmx
  clear hc hmx
  by_cases h2000 : s0.size ≤ 2000
  · have hn2 : ¬ (2000 : Int) < (s0.size : Int) := by omega
    have HL := hide hL
    have H2 := hide h2000
    clear hL
    go_enter Try.func4, Try.ntmps4
    go_wp2_with fail
    refine hli.mono ?_
    rintro e w1 ⟨hb1, (⟨hl, rfl⟩ | ⟨hn, rfl⟩)⟩
    · exact absurd ⟨hl, H2.out⟩ HL.out
    · have HB1 := hide hb1
      have hlv := lives_piece w1
      clear hli hb1 hn
      go_wp2_with (go_at_call 24; refine hlv.mono ?_; rintro e w7 ⟨rfl, hb7⟩; have HB7 := hide hb7; clear hb7 hlv)
      go_ret
      exact ⟨rfl, HB1.out.trans (HB7.out.mono HB1.out.size)⟩
  · have hn2 : (2000 : Int) < (s0.size : Int) := by omega
    clear hL
    go_enter Try.func4, Try.ntmps4
    go_wp2_with fail
    refine hli.mono ?_
    rintro e w1 ⟨hb1, (⟨hl, rfl⟩ | ⟨hn, rfl⟩)⟩
    · have HB1 := hide hb1
      have hlv := lives_piece w1
      clear hli hb1 hl
      go_wp2_with (go_at_call 24; refine hlv.mono ?_; rintro e w7 ⟨rfl, hb7⟩; have HB7 := hide hb7; clear hb7 hlv)
      go_ret
      exact ⟨rfl, HB1.out.trans (HB7.out.mono HB1.out.size)⟩
    · have HB1 := hide hb1
      have hlv := lives_piece w1
      clear hli hb1 hn
      go_wp2_with (go_at_call 24; refine hlv.mono ?_; rintro e w7 ⟨rfl, hb7⟩; have HB7 := hide hb7; clear hb7 hlv)
      go_ret
      exact ⟨rfl, HB1.out.trans (HB7.out.mono HB1.out.size)⟩

theorem slices_any (s0 : ByteArray) (a : Option Addr) (ss : List Stp) (cap : Nat) (f t : Int) (w : World) (hc : CameP w.heap.size w a ss) (hok : ∀ i, IntOk (ss.getD i stp0).at_) (hmx : ∀ i, (ss.getD i stp0).s.size ≤ 9223372036854775807) (hm0 : s0.size ≤ 9223372036854775807) :
    Calls Try.prog 4 #[.string s0, .slice a ss.length cap, .int .i64 f, .int .i64 t] w fun e w' => e = .returned (.bool true) ∧ Below w.heap.size w w' := by
  by_cases h : Light ss ∧ s0.size ≤ 2000
  · exact slices_go s0 a ss cap f t w hc hok hmx h.1 h.2
  · exact slices_not s0 a ss cap f t w hc hmx hm0 h

end Go.Proofs.Ytpmijaplkbmbiaa
