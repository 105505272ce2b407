/- EditMakes, walked. -/
import Derived.Test.YtpmijaplkbmbiaaEdT
namespace Go.Proofs.Ytpmijaplkbmbiaa.E
open Go.Proofs.Ytpmijaplkbmbiaa Go.RowKit Go.By Go.Shelf
set_option linter.unusedVariables false
set_option linter.unusedSimpArgs false

theorem ins_len (n at_ : Int) (s : ByteArray) : (insR n at_ s).length ≤ 12 := by
  by_cases h : insE n at_ s = 0
  · exact (ins_facts h).2.2.2.1
  · rw [insR, if_neg h]; simp
theorem del_len (n at_ many : Int) : (delR n at_ many).length ≤ 12 := by
  by_cases h : delE n at_ many = 0
  · exact (del_facts h).2.2.2.1
  · rw [delR, if_neg h]; simp
theorem noth_len (n : Int) : (nothR n).length ≤ 1 := by
  unfold nothR; split <;> simp

set_option maxRecDepth 100000 in
set_option maxHeartbeats 8000000 in
theorem makes_any (n at_ many : Int) (s : ByteArray) (w : World) (ha : at_ ≤ 9223372036854775807) :
    Calls Try.prog 13 #[.int .i64 n, .int .i64 at_, .int .i64 many, .string s] w fun e W' => e = .returned (.bool true) ∧ Below w.heap.size w W' := by
  go_enter Try.func13, Try.ntmps13
  by_cases hs : (2000 : Int) < (s.size : Int)
  · skip
    go_wp2_with (go_at_call 50; refine (lives_any w).mono ?_; rintro e W1 ⟨rfl, hb⟩; have HB1 := hide hb; clear hb)
    go_ret
    exact ⟨rfl, HB1.out⟩
  obtain ⟨x, hx⟩ : ∃ x, insE n at_ s = x := ⟨_, rfl⟩
  obtain ⟨y, hy⟩ : ∃ y, delE n at_ many = y := ⟨_, rfl⟩
  have hI : ∀ W, Calls Try.prog 63 #[.int .i64 n, .int .i64 at_, .string s] W fun e W' => Gives2 W.heap.size W (insR n at_ s) x e W' := fun W => by rw [← hx]; exact insert_any n at_ s W
  have hJ : ∀ W, Calls Try.prog 64 #[.int .i64 n, .int .i64 at_, .string s] W fun e W' => Gives2 W.heap.size W (insR n at_ s) x e W' := fun W => by rw [← hx]; exact rinsert_any n at_ s W
  have hD : ∀ W, Calls Try.prog 65 #[.int .i64 n, .int .i64 at_, .int .i64 many] W fun e W' => Gives2 W.heap.size W (delR n at_ many) y e W' := fun W => by rw [← hy]; exact delete_any n at_ many W ha
  have hE : ∀ W, Calls Try.prog 66 #[.int .i64 n, .int .i64 at_, .int .i64 many] W fun e W' => Gives2 W.heap.size W (delR n at_ many) y e W' := fun W => by rw [← hy]; exact rdelete_any n at_ many W
  have HLA := hide (ins_len n at_ s)
  have HLD := hide (del_len n at_ many)
  have HLN := hide (noth_len n)
  have HFA := hide (show insE n at_ s = 0 → _ from ins_facts (n := n) (at_ := at_) (s := s))
  have HFD := hide (show delE n at_ many = 0 → _ from del_facts (n := n) (at_ := at_) (many := many))
  rw [hx] at HFA
  rw [hy] at HFD
  clear hx hy ha
  generalize insR n at_ s = A at *
  generalize delR n at_ many = D at *
  by_cases x0 : x = 0
  · subst x0
    obtain ⟨fa1, fa2, fa3, _, fa5, fa6⟩ := HFA.out rfl
    have wa : IntKind.i64.wrap (n + (s.size : Int)) = n + (s.size : Int) := by rw [IntKind.wrap_i64]; omega
    have FA1 := hide fa1
    have FA2 := hide fa2
    have FA3 := hide fa3
    clear fa1 fa2 fa3 fa5 fa6 HFA
    by_cases y0 : y = 0
    · subst y0
      obtain ⟨fd1, fd2, fd3, _, fd5, fd6, fd7⟩ := HFD.out rfl
      have wd : IntKind.i64.wrap (n - many) = n - many := by rw [IntKind.wrap_i64]; omega
      have FD1 := hide fd1
      have FD2 := hide fd2
      have FD3 := hide fd3
      clear fd1 fd2 fd3 fd5 fd6 fd7 HFD
      go_wp2_with (go_at_call 63; refine (hI w).mono ?_; rintro e W1 ⟨a1, c1, rfl, hc, hb⟩; have I1 := hide hc; have HB1 := hide hb; clear hb hc)
      go_wp2_with (go_at_call 64; refine (hJ W1).mono ?_; rintro e W2 ⟨a2, c2, rfl, hc, hb⟩; have I2 := hide (came_up I1.out hb); have J2 := hide hc; have HB2 := hide (HB1.out.trans (hb.mono HB1.out.size)); clear hb hc I1)
      go_wp2_with (go_at_call 65; refine (hD W2).mono ?_; rintro e W3 ⟨a3, c3, rfl, hc, hb⟩; have I3 := hide (came_up I2.out hb); have J3 := hide (came_up J2.out hb); have D3 := hide hc; have HB3 := hide (HB2.out.trans (hb.mono HB2.out.size)); clear hb hc I2 J2)
      go_wp2_with (go_at_call 66; refine (hE W3).mono ?_; rintro e W4 ⟨a4, c4, rfl, hc, hb⟩; have I4 := hide (came_up I3.out hb); have J4 := hide (came_up J3.out hb); have D4 := hide (came_up D3.out hb); have E4 := hide hc; have HB4 := hide (HB3.out.trans (hb.mono HB3.out.size)); clear hb hc I3 J3 D3)
      go_wp2_with (go_at_call 51; refine (good_any a1 c1 A W4 I4.out (by have := HLA.out; omega)).mono ?_; rintro e W5 ⟨rfl, hb⟩; rw [FA1.out]; have I5 := hide (came_up I4.out hb); have J5 := hide (came_up J4.out hb); have D5 := hide (came_up D4.out hb); have E5 := hide (came_up E4.out hb); have HB5 := hide (HB4.out.trans (hb.mono HB4.out.size)); clear hb I4 J4 D4 E4)
      go_wp2_with (go_at_call 53; refine (in_any a1 c1 A W5 I5.out (by have := HLA.out; omega)).mono ?_; rintro e W6 ⟨rfl, hb⟩; rw [FA2.out]; have I6 := hide (came_up I5.out hb); have J6 := hide (came_up J5.out hb); have D6 := hide (came_up D5.out hb); have E6 := hide (came_up E5.out hb); have HB6 := hide (HB5.out.trans (hb.mono HB5.out.size)); clear hb I5 J5 D5 E5)
      go_wp2_with (go_at_call 55; refine (out_any a1 c1 A W6 I6.out (by have := HLA.out; omega)).mono ?_; rintro e W7 ⟨rfl, hb⟩; rw [FA3.out]; have I7 := hide (came_up I6.out hb); have J7 := hide (came_up J6.out hb); have D7 := hide (came_up D6.out hb); have E7 := hide (came_up E6.out hb); have HB7 := hide (HB6.out.trans (hb.mono HB6.out.size)); clear hb I6 J6 D6 E6)
      go_wp2_with (go_at_call 51; refine (good_any a3 c3 D W7 D7.out (by have := HLD.out; omega)).mono ?_; rintro e W8 ⟨rfl, hb⟩; rw [FD1.out]; have I8 := hide (came_up I7.out hb); have J8 := hide (came_up J7.out hb); have D8 := hide (came_up D7.out hb); have E8 := hide (came_up E7.out hb); have HB8 := hide (HB7.out.trans (hb.mono HB7.out.size)); clear hb I7 J7 D7 E7)
      go_wp2_with (go_at_call 53; refine (in_any a3 c3 D W8 D8.out (by have := HLD.out; omega)).mono ?_; rintro e W9 ⟨rfl, hb⟩; rw [FD2.out]; have I9 := hide (came_up I8.out hb); have J9 := hide (came_up J8.out hb); have D9 := hide (came_up D8.out hb); have E9 := hide (came_up E8.out hb); have HB9 := hide (HB8.out.trans (hb.mono HB8.out.size)); clear hb I8 J8 D8 E8)
      go_wp2_with (go_at_call 55; refine (out_any a3 c3 D W9 D9.out (by have := HLD.out; omega)).mono ?_; rintro e W10 ⟨rfl, hb⟩; rw [FD3.out]; have I10 := hide (came_up I9.out hb); have J10 := hide (came_up J9.out hb); have D10 := hide (came_up D9.out hb); have E10 := hide (came_up E9.out hb); have HB10 := hide (HB9.out.trans (hb.mono HB9.out.size)); clear hb I9 J9 D9 E9)
      go_wp2_with (go_at_call 59; refine (rsame_is a1 a2 c1 c2 A A W10 I10.out J10.out (by have := HLA.out; omega) rfl).mono ?_; rintro e W11 ⟨rfl, hb⟩; have I11 := hide (came_up I10.out hb); have J11 := hide (came_up J10.out hb); have D11 := hide (came_up D10.out hb); have E11 := hide (came_up E10.out hb); have HB11 := hide (HB10.out.trans (hb.mono HB10.out.size)); clear hb I10 J10 D10 E10)
      go_wp2_with (go_at_call 59; refine (rsame_is a3 a4 c3 c4 D D W11 D11.out E11.out (by have := HLD.out; omega) rfl).mono ?_; rintro e W12 ⟨rfl, hb⟩; have I12 := hide (came_up I11.out hb); have J12 := hide (came_up J11.out hb); have D12 := hide (came_up D11.out hb); have E12 := hide (came_up E11.out hb); have HB12 := hide (HB11.out.trans (hb.mono HB11.out.size)); clear hb I11 J11 D11 E11)
      go_wp2_with (go_at_call 67; refine (nothing_any n W12).mono ?_; rintro e W13 ⟨a13, c13, rfl, hc, hb⟩; have P13 := hide hc; have HB13 := hide (HB12.out.trans (hb.mono HB12.out.size)); clear hb hc)
      go_wp2_with (go_at_call 68; refine (rnothing_any n W13).mono ?_; rintro e W14 ⟨a14, c14, rfl, hc, hb⟩; have P14 := hide (came_up P13.out hb); have Q14 := hide hc; have HB14 := hide (HB13.out.trans (hb.mono HB13.out.size)); clear hb hc P13)
      go_wp2_with (go_at_call 59; refine (rsame_is a13 a14 c13 c14 _ _ W14 P14.out Q14.out (by have := HLN.out; omega) rfl).mono ?_; rintro e W15 ⟨rfl, hb⟩; have P15 := hide (came_up P14.out hb); have Q15 := hide (came_up Q14.out hb); have HB15 := hide (HB14.out.trans (hb.mono HB14.out.size)); clear hb P14 Q14)
      go_wp2_with (go_at_call 50; refine (lives_any W15).mono ?_; rintro e W16 ⟨rfl, hb⟩; have P16 := hide (came_up P15.out hb); have Q16 := hide (came_up Q15.out hb); have HB16 := hide (HB15.out.trans (hb.mono HB15.out.size)); clear hb P15 Q15)
      go_ret
      exact ⟨rfl, HB16.out⟩
    · have y1 : (y == 0) = false := by simpa using y0
      clear HFD
      go_wp2_with (go_at_call 63; refine (hI w).mono ?_; rintro e W1 ⟨a1, c1, rfl, hc, hb⟩; have I1 := hide hc; have HB1 := hide hb; clear hb hc)
      go_wp2_with (go_at_call 64; refine (hJ W1).mono ?_; rintro e W2 ⟨a2, c2, rfl, hc, hb⟩; have I2 := hide (came_up I1.out hb); have J2 := hide hc; have HB2 := hide (HB1.out.trans (hb.mono HB1.out.size)); clear hb hc I1)
      go_wp2_with (go_at_call 65; refine (hD W2).mono ?_; rintro e W3 ⟨a3, c3, rfl, hc, hb⟩; have I3 := hide (came_up I2.out hb); have J3 := hide (came_up J2.out hb); have D3 := hide hc; have HB3 := hide (HB2.out.trans (hb.mono HB2.out.size)); clear hb hc I2 J2)
      go_wp2_with (go_at_call 66; refine (hE W3).mono ?_; rintro e W4 ⟨a4, c4, rfl, hc, hb⟩; have I4 := hide (came_up I3.out hb); have J4 := hide (came_up J3.out hb); have D4 := hide (came_up D3.out hb); have E4 := hide hc; have HB4 := hide (HB3.out.trans (hb.mono HB3.out.size)); clear hb hc I3 J3 D3)
      go_wp2_with (go_at_call 51; refine (good_any a1 c1 A W4 I4.out (by have := HLA.out; omega)).mono ?_; rintro e W5 ⟨rfl, hb⟩; rw [FA1.out]; have I5 := hide (came_up I4.out hb); have J5 := hide (came_up J4.out hb); have D5 := hide (came_up D4.out hb); have E5 := hide (came_up E4.out hb); have HB5 := hide (HB4.out.trans (hb.mono HB4.out.size)); clear hb I4 J4 D4 E4)
      go_wp2_with (go_at_call 53; refine (in_any a1 c1 A W5 I5.out (by have := HLA.out; omega)).mono ?_; rintro e W6 ⟨rfl, hb⟩; rw [FA2.out]; have I6 := hide (came_up I5.out hb); have J6 := hide (came_up J5.out hb); have D6 := hide (came_up D5.out hb); have E6 := hide (came_up E5.out hb); have HB6 := hide (HB5.out.trans (hb.mono HB5.out.size)); clear hb I5 J5 D5 E5)
      go_wp2_with (go_at_call 55; refine (out_any a1 c1 A W6 I6.out (by have := HLA.out; omega)).mono ?_; rintro e W7 ⟨rfl, hb⟩; rw [FA3.out]; have I7 := hide (came_up I6.out hb); have J7 := hide (came_up J6.out hb); have D7 := hide (came_up D6.out hb); have E7 := hide (came_up E6.out hb); have HB7 := hide (HB6.out.trans (hb.mono HB6.out.size)); clear hb I6 J6 D6 E6)
      go_wp2_with (go_at_call 59; refine (rsame_is a1 a2 c1 c2 A A W7 I7.out J7.out (by have := HLA.out; omega) rfl).mono ?_; rintro e W8 ⟨rfl, hb⟩; have I8 := hide (came_up I7.out hb); have J8 := hide (came_up J7.out hb); have D8 := hide (came_up D7.out hb); have E8 := hide (came_up E7.out hb); have HB8 := hide (HB7.out.trans (hb.mono HB7.out.size)); clear hb I7 J7 D7 E7)
      go_wp2_with (go_at_call 59; refine (rsame_is a3 a4 c3 c4 D D W8 D8.out E8.out (by have := HLD.out; omega) rfl).mono ?_; rintro e W9 ⟨rfl, hb⟩; have I9 := hide (came_up I8.out hb); have J9 := hide (came_up J8.out hb); have D9 := hide (came_up D8.out hb); have E9 := hide (came_up E8.out hb); have HB9 := hide (HB8.out.trans (hb.mono HB8.out.size)); clear hb I8 J8 D8 E8)
      go_wp2_with (go_at_call 67; refine (nothing_any n W9).mono ?_; rintro e W10 ⟨a10, c10, rfl, hc, hb⟩; have P10 := hide hc; have HB10 := hide (HB9.out.trans (hb.mono HB9.out.size)); clear hb hc)
      go_wp2_with (go_at_call 68; refine (rnothing_any n W10).mono ?_; rintro e W11 ⟨a11, c11, rfl, hc, hb⟩; have P11 := hide (came_up P10.out hb); have Q11 := hide hc; have HB11 := hide (HB10.out.trans (hb.mono HB10.out.size)); clear hb hc P10)
      go_wp2_with (go_at_call 59; refine (rsame_is a10 a11 c10 c11 _ _ W11 P11.out Q11.out (by have := HLN.out; omega) rfl).mono ?_; rintro e W12 ⟨rfl, hb⟩; have P12 := hide (came_up P11.out hb); have Q12 := hide (came_up Q11.out hb); have HB12 := hide (HB11.out.trans (hb.mono HB11.out.size)); clear hb P11 Q11)
      go_wp2_with (go_at_call 50; refine (lives_any W12).mono ?_; rintro e W13 ⟨rfl, hb⟩; have P13 := hide (came_up P12.out hb); have Q13 := hide (came_up Q12.out hb); have HB13 := hide (HB12.out.trans (hb.mono HB12.out.size)); clear hb P12 Q12)
      go_ret
      exact ⟨rfl, HB13.out⟩
  · have x1 : (x == 0) = false := by simpa using x0
    clear HFA
    by_cases y0 : y = 0
    · subst y0
      obtain ⟨fd1, fd2, fd3, _, fd5, fd6, fd7⟩ := HFD.out rfl
      have wd : IntKind.i64.wrap (n - many) = n - many := by rw [IntKind.wrap_i64]; omega
      have FD1 := hide fd1
      have FD2 := hide fd2
      have FD3 := hide fd3
      clear fd1 fd2 fd3 fd5 fd6 fd7 HFD
      go_wp2_with (go_at_call 63; refine (hI w).mono ?_; rintro e W1 ⟨a1, c1, rfl, hc, hb⟩; have I1 := hide hc; have HB1 := hide hb; clear hb hc)
      go_wp2_with (go_at_call 64; refine (hJ W1).mono ?_; rintro e W2 ⟨a2, c2, rfl, hc, hb⟩; have I2 := hide (came_up I1.out hb); have J2 := hide hc; have HB2 := hide (HB1.out.trans (hb.mono HB1.out.size)); clear hb hc I1)
      go_wp2_with (go_at_call 65; refine (hD W2).mono ?_; rintro e W3 ⟨a3, c3, rfl, hc, hb⟩; have I3 := hide (came_up I2.out hb); have J3 := hide (came_up J2.out hb); have D3 := hide hc; have HB3 := hide (HB2.out.trans (hb.mono HB2.out.size)); clear hb hc I2 J2)
      go_wp2_with (go_at_call 66; refine (hE W3).mono ?_; rintro e W4 ⟨a4, c4, rfl, hc, hb⟩; have I4 := hide (came_up I3.out hb); have J4 := hide (came_up J3.out hb); have D4 := hide (came_up D3.out hb); have E4 := hide hc; have HB4 := hide (HB3.out.trans (hb.mono HB3.out.size)); clear hb hc I3 J3 D3)
      go_wp2_with (go_at_call 51; refine (good_any a3 c3 D W4 D4.out (by have := HLD.out; omega)).mono ?_; rintro e W5 ⟨rfl, hb⟩; rw [FD1.out]; have I5 := hide (came_up I4.out hb); have J5 := hide (came_up J4.out hb); have D5 := hide (came_up D4.out hb); have E5 := hide (came_up E4.out hb); have HB5 := hide (HB4.out.trans (hb.mono HB4.out.size)); clear hb I4 J4 D4 E4)
      go_wp2_with (go_at_call 53; refine (in_any a3 c3 D W5 D5.out (by have := HLD.out; omega)).mono ?_; rintro e W6 ⟨rfl, hb⟩; rw [FD2.out]; have I6 := hide (came_up I5.out hb); have J6 := hide (came_up J5.out hb); have D6 := hide (came_up D5.out hb); have E6 := hide (came_up E5.out hb); have HB6 := hide (HB5.out.trans (hb.mono HB5.out.size)); clear hb I5 J5 D5 E5)
      go_wp2_with (go_at_call 55; refine (out_any a3 c3 D W6 D6.out (by have := HLD.out; omega)).mono ?_; rintro e W7 ⟨rfl, hb⟩; rw [FD3.out]; have I7 := hide (came_up I6.out hb); have J7 := hide (came_up J6.out hb); have D7 := hide (came_up D6.out hb); have E7 := hide (came_up E6.out hb); have HB7 := hide (HB6.out.trans (hb.mono HB6.out.size)); clear hb I6 J6 D6 E6)
      go_wp2_with (go_at_call 59; refine (rsame_is a1 a2 c1 c2 A A W7 I7.out J7.out (by have := HLA.out; omega) rfl).mono ?_; rintro e W8 ⟨rfl, hb⟩; have I8 := hide (came_up I7.out hb); have J8 := hide (came_up J7.out hb); have D8 := hide (came_up D7.out hb); have E8 := hide (came_up E7.out hb); have HB8 := hide (HB7.out.trans (hb.mono HB7.out.size)); clear hb I7 J7 D7 E7)
      go_wp2_with (go_at_call 59; refine (rsame_is a3 a4 c3 c4 D D W8 D8.out E8.out (by have := HLD.out; omega) rfl).mono ?_; rintro e W9 ⟨rfl, hb⟩; have I9 := hide (came_up I8.out hb); have J9 := hide (came_up J8.out hb); have D9 := hide (came_up D8.out hb); have E9 := hide (came_up E8.out hb); have HB9 := hide (HB8.out.trans (hb.mono HB8.out.size)); clear hb I8 J8 D8 E8)
      go_wp2_with (go_at_call 67; refine (nothing_any n W9).mono ?_; rintro e W10 ⟨a10, c10, rfl, hc, hb⟩; have P10 := hide hc; have HB10 := hide (HB9.out.trans (hb.mono HB9.out.size)); clear hb hc)
      go_wp2_with (go_at_call 68; refine (rnothing_any n W10).mono ?_; rintro e W11 ⟨a11, c11, rfl, hc, hb⟩; have P11 := hide (came_up P10.out hb); have Q11 := hide hc; have HB11 := hide (HB10.out.trans (hb.mono HB10.out.size)); clear hb hc P10)
      go_wp2_with (go_at_call 59; refine (rsame_is a10 a11 c10 c11 _ _ W11 P11.out Q11.out (by have := HLN.out; omega) rfl).mono ?_; rintro e W12 ⟨rfl, hb⟩; have P12 := hide (came_up P11.out hb); have Q12 := hide (came_up Q11.out hb); have HB12 := hide (HB11.out.trans (hb.mono HB11.out.size)); clear hb P11 Q11)
      go_wp2_with (go_at_call 50; refine (lives_any W12).mono ?_; rintro e W13 ⟨rfl, hb⟩; have P13 := hide (came_up P12.out hb); have Q13 := hide (came_up Q12.out hb); have HB13 := hide (HB12.out.trans (hb.mono HB12.out.size)); clear hb P12 Q12)
      go_ret
      exact ⟨rfl, HB13.out⟩
    · have y1 : (y == 0) = false := by simpa using y0
      clear HFD
      go_wp2_with (go_at_call 63; refine (hI w).mono ?_; rintro e W1 ⟨a1, c1, rfl, hc, hb⟩; have I1 := hide hc; have HB1 := hide hb; clear hb hc)
      go_wp2_with (go_at_call 64; refine (hJ W1).mono ?_; rintro e W2 ⟨a2, c2, rfl, hc, hb⟩; have I2 := hide (came_up I1.out hb); have J2 := hide hc; have HB2 := hide (HB1.out.trans (hb.mono HB1.out.size)); clear hb hc I1)
      go_wp2_with (go_at_call 65; refine (hD W2).mono ?_; rintro e W3 ⟨a3, c3, rfl, hc, hb⟩; have I3 := hide (came_up I2.out hb); have J3 := hide (came_up J2.out hb); have D3 := hide hc; have HB3 := hide (HB2.out.trans (hb.mono HB2.out.size)); clear hb hc I2 J2)
      go_wp2_with (go_at_call 66; refine (hE W3).mono ?_; rintro e W4 ⟨a4, c4, rfl, hc, hb⟩; have I4 := hide (came_up I3.out hb); have J4 := hide (came_up J3.out hb); have D4 := hide (came_up D3.out hb); have E4 := hide hc; have HB4 := hide (HB3.out.trans (hb.mono HB3.out.size)); clear hb hc I3 J3 D3)
      go_wp2_with (go_at_call 59; refine (rsame_is a1 a2 c1 c2 A A W4 I4.out J4.out (by have := HLA.out; omega) rfl).mono ?_; rintro e W5 ⟨rfl, hb⟩; have I5 := hide (came_up I4.out hb); have J5 := hide (came_up J4.out hb); have D5 := hide (came_up D4.out hb); have E5 := hide (came_up E4.out hb); have HB5 := hide (HB4.out.trans (hb.mono HB4.out.size)); clear hb I4 J4 D4 E4)
      go_wp2_with (go_at_call 59; refine (rsame_is a3 a4 c3 c4 D D W5 D5.out E5.out (by have := HLD.out; omega) rfl).mono ?_; rintro e W6 ⟨rfl, hb⟩; have I6 := hide (came_up I5.out hb); have J6 := hide (came_up J5.out hb); have D6 := hide (came_up D5.out hb); have E6 := hide (came_up E5.out hb); have HB6 := hide (HB5.out.trans (hb.mono HB5.out.size)); clear hb I5 J5 D5 E5)
      go_wp2_with (go_at_call 67; refine (nothing_any n W6).mono ?_; rintro e W7 ⟨a7, c7, rfl, hc, hb⟩; have P7 := hide hc; have HB7 := hide (HB6.out.trans (hb.mono HB6.out.size)); clear hb hc)
      go_wp2_with (go_at_call 68; refine (rnothing_any n W7).mono ?_; rintro e W8 ⟨a8, c8, rfl, hc, hb⟩; have P8 := hide (came_up P7.out hb); have Q8 := hide hc; have HB8 := hide (HB7.out.trans (hb.mono HB7.out.size)); clear hb hc P7)
      go_wp2_with (go_at_call 59; refine (rsame_is a7 a8 c7 c8 _ _ W8 P8.out Q8.out (by have := HLN.out; omega) rfl).mono ?_; rintro e W9 ⟨rfl, hb⟩; have P9 := hide (came_up P8.out hb); have Q9 := hide (came_up Q8.out hb); have HB9 := hide (HB8.out.trans (hb.mono HB8.out.size)); clear hb P8 Q8)
      go_wp2_with (go_at_call 50; refine (lives_any W9).mono ?_; rintro e W10 ⟨rfl, hb⟩; have P10 := hide (came_up P9.out hb); have Q10 := hide (came_up Q9.out hb); have HB10 := hide (HB9.out.trans (hb.mono HB9.out.size)); clear hb P9 Q9)
      go_ret
      exact ⟨rfl, HB10.out⟩

end Go.Proofs.Ytpmijaplkbmbiaa.E
