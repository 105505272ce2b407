/- RunFolds, walked. -/
import Derived.Test.YtpmijaplkbmbiaaV3
namespace Go.Proofs.Ytpmijaplkbmbiaa.E
open Go.Proofs.Ytpmijaplkbmbiaa Go.RowKit Go.By Go.Shelf
set_option linter.unusedVariables false
set_option linter.unusedSimpArgs false

theorem fold_append (l1 l2 : List Ln) : ∀ s, foldR (l1 ++ l2) s = if (foldR l1 s).2 = 0 then foldR l2 (foldR l1 s).1 else (⟨#[]⟩, 60) := by
  induction l1 with
  | nil => intro s; rfl
  | cons x l1 ih =>
    intro s
    rw [List.cons_append, foldR, foldR]
    split
    · exact ih _
    · rfl
theorem fold_err (ls : List Ln) : ∀ s, (foldR ls s).2 = 0 ∨ (foldR ls s).2 = 60 := by
  induction ls with
  | nil => intro s; exact .inl rfl
  | cons x ls ih =>
    intro s
    rw [foldR]
    split
    · exact ih _
    · exact .inr rfl

theorem mod_len (x : Int) (n : Nat) (hn : n ≤ 1000000) : ∃ c : Nat, c ≤ n ∧ IntKind.i64.wrap ((IntKind.u64.wrap x).tmod ((n : Int) + 1)) = (c : Int) := by
  have h0 : 0 ≤ IntKind.u64.wrap x := by rw [IntKind.wrap_u64]; omega
  obtain ⟨m, hm⟩ := Int.eq_ofNat_of_zero_le h0
  have hlt : m % (n + 1) < n + 1 := Nat.mod_lt _ (by omega)
  refine ⟨m % (n + 1), by omega, ?_⟩
  rw [hm, show ((m : Int)).tmod ((n : Int) + 1) = ((m % (n + 1) : Nat) : Int) from rfl, IntKind.wrap_i64]
  omega

theorem take_lists {n₀ : Nat} {W : World} {a : Option Addr} {ls : List Ln} (k : Nat) (h : CameL n₀ W a ls) : CameL n₀ W a (ls.take k) := by
  rcases h with rfl | ⟨b, off, e, hl, hc⟩
  · exact .inl (by simp)
  · exact .inr ⟨b, off, e, hl, fun i x hx => hc i x (by
    rw [List.getElem?_take] at hx
    split at hx
    · exact hx
    · cases hx)⟩
theorem drop_lists {n₀ : Nat} {W : World} {b off : Nat} {ls : List Ln} (k : Nat) (h : CameL n₀ W (some ⟨b, off, none⟩) ls) : CameL n₀ W (some ⟨b, off + k, none⟩) (ls.drop k) := by
  rcases h with rfl | ⟨b', off', e, hl, hc⟩
  · exact .inl (by simp)
  · cases e
    exact .inr ⟨b, off + k, rfl, hl, fun i x hx => by rw [Nat.add_assoc]; exact hc (k + i) x (by rw [List.getElem?_drop] at hx; exact hx)⟩

set_option maxRecDepth 100000 in
set_option maxHeartbeats 8000000 in
theorem runfolds_any (a : Option Addr) (cap : Nat) (ls : List Ln) (s : ByteArray) (x : Int) (w : World) (hS : CameL w.heap.size w a ls) (hcap : ls.length ≤ cap) (hcn : a = none → cap = 0) :
    Calls Try.prog 18 #[.slice a ls.length cap, .string s, .int .i64 x] w fun e W' => e = .returned (.bool true) ∧ Below w.heap.size w W' := by
  have HS := hide hS
  clear hS
  go_enter Try.func18, Try.ntmps18
  by_cases h1 : (40 : Int) < (ls.length : Int)
  · go_wp2_with (go_at_call 69; refine (lives7_any w).mono ?_; rintro e W1 ⟨rfl, hb⟩; have HB := hide hb; clear hb)
    go_ret
    exact ⟨rfl, HB.out⟩
  by_cases h2 : (2000 : Int) < (s.size : Int)
  · go_wp2_with (go_at_call 69; refine (lives7_any w).mono ?_; rintro e W1 ⟨rfl, hb⟩; have HB := hide hb; clear hb)
    go_ret
    exact ⟨rfl, HB.out⟩
  obtain ⟨c, hc, hcm⟩ := mod_len x ls.length (by omega)
  have w1 : IntKind.i64.wrap ((ls.length : Int) + 1) = (ls.length : Int) + 1 := by rw [IntKind.wrap_i64]; omega
  have w2 : IntKind.u64.wrap ((ls.length : Int) + 1) = (ls.length : Int) + 1 := by rw [IntKind.wrap_u64]; omega
  have w3 : ((ls.length : Int) + 1 == 0) = false := beq_eq_false_iff_ne.2 (by omega)
  have hn : ls.length ≤ 40 := by omega
  go_wp2_with fail
  go_loopw [7, 32] (fun q i wr => ∃ (k : Nat) (N : Int), k ≤ ls.length ∧ i = .int .i64 (k : Int) ∧ q = .int .i64 N ∧ (0 ≤ N ∧ N ≤ 30000000) ∧ Hid ((∀ y ∈ ls.take k, LightR y.2) ∧ Below w.heap.size w wr)) (fun _ i _ => ls.length - (intOf i).toNat)
  case atStart => exact ⟨0, _, Nat.zero_le _, rfl, rfl, by omega, hide ⟨by simp, Below.refl _ _⟩⟩
  case round =>
    obtain ⟨k, N, hk, rfl, rfl, hN, HI⟩ := hrel
    by_cases hlt : k < ls.length
    · have hlt' : (k : Int) < (ls.length : Int) := by omega
      obtain ⟨y, hyk⟩ : ∃ y, ls[k]? = some y := ⟨ls[k], List.getElem?_eq_getElem hlt⟩
      obtain ⟨b, off, rfl, hbl, hcell⟩ : ∃ b off, a = some ⟨b, off, none⟩ ∧ b < w.heap.size ∧ _ := by
        rcases HS.out.below HI.out.2 with rfl | h
        · simp at hlt
        · exact h
      obtain ⟨s0, hr⟩ := hcell k y hyk
      have hsn : ls.take (k + 1) = ls.take k ++ [y] := by rw [List.take_succ_eq_append_getElem hlt, (List.getElem?_eq_some_iff.1 hyk).2]
      have hli := light_any y.1.1 y.1.2 y.2 wr (hr.mono HI.out.2.size)
      have HR := hide (hr.mono HI.out.2.size)
      have HSN := hide hsn
      obtain ⟨⟨ya, yc⟩, yr⟩ := y
      dsimp only at s0 hli
      have w6 : IntKind.i64.wrap ((k : Int) + 1) = (k : Int) + 1 := by rw [IntKind.wrap_i64]; omega
      clear hcell hr hyk hsn
      by_cases hl : LightR yr
      · have HLI : Hid (decide (LightR yr) = true) := hide (decide_eq_true hl)
        have HL := hide hl
        clear hl
        by_cases h3 : 4000 < N
        · go_wp2_with (go_at_call 49; refine hli.mono ?_; rintro e W1 ⟨rfl, hb⟩; rw [HLI.out]; have HB1 := hide (HI.out.2.trans (hb.mono HI.out.2.size)); clear hb hli)
          go_wp2_with (go_at_call 69; refine (lives7_any W1).mono ?_; rintro e W2 ⟨rfl, hb⟩; have HB2 := hide (HB1.out.trans (hb.mono HB1.out.size)); clear hb)
          go_ret
          exact ⟨rfl, HB2.out⟩
        · obtain ⟨o, ho, ho2⟩ : ∃ o, mOut (meas yr) = o ∧ 0 ≤ o ∧ o ≤ 16777216 := by
            refine ⟨_, rfl, ?_⟩
            by_cases hg : isG yr = true
            · obtain ⟨j, hj, _, h5, _⟩ := good_facts hg
              rw [hj]; show 0 ≤ (tOut (expand yr) : Int) ∧ (tOut (expand yr) : Int) ≤ 16777216; omega
            · have : meas yr = none := by
                have := hg; unfold isG at this; cases hm : meas yr with
                | none => rfl
                | some z => rw [hm] at this; exact absurd rfl this
              rw [this]; exact ⟨Int.le_refl _, by decide⟩
          have HO := hide ho
          have w4 : IntKind.i64.wrap (N + o) = N + o := by rw [IntKind.wrap_i64]; omega
          clear ho
          go_wp2_with (first
            | (go_at_call 49; refine hli.mono ?_; rintro e W1 ⟨rfl, hb⟩; rw [HLI.out]; have HB1 := hide (HI.out.2.trans (hb.mono HI.out.2.size)); have HR1 := hide (came_up HR.out hb); clear hb hli)
            | (go_at_call 55; refine (out_any ya yc yr W1 HR1.out (by have := HL.out.1; omega)).mono ?_; rintro e W2 ⟨rfl, hb⟩; rw [HO.out]; have HB2 := hide (HB1.out.trans (hb.mono HB1.out.size)); clear hb))
          go_roundw
          case rel => exact ⟨k + 1, N + o, by omega, by go_num, rfl, by omega, hide ⟨by
            intro z hz
            rw [HSN.out, List.mem_append] at hz
            rcases hz with hz | hz
            · exact HI.out.1 z hz
            · simp at hz; subst hz; exact HL.out, HB2.out⟩⟩
          case measure => simp [intOf]; omega
      · have HLI : Hid (decide (LightR yr) = false) := hide (decide_eq_false hl)
        clear hl
        go_wp2_with (go_at_call 49; refine hli.mono ?_; rintro e W1 ⟨rfl, hb⟩; rw [HLI.out]; have HB1 := hide (HI.out.2.trans (hb.mono HI.out.2.size)); clear hb hli)
        go_wp2_with (go_at_call 69; refine (lives7_any W1).mono ?_; rintro e W2 ⟨rfl, hb⟩; have HB2 := hide (HB1.out.trans (hb.mono HB1.out.size)); clear hb)
        go_ret
        exact ⟨rfl, HB2.out⟩
    · obtain rfl : k = ls.length := by omega
      have hx : ∀ y ∈ ls, y.2.length ≤ 1000000 := fun y hy => by
        have := (HI.out.1 y (by rw [List.take_length]; exact hy)).1; omega
      have HX := hide hx
      have L0 := hide ((HS.out.below HI.out.2).mono HI.out.2.size)
      have HB0 := hide HI.out.2
      have happ := fold_append (ls.take c) (ls.drop c) s
      rw [List.take_append_drop] at happ
      have HAP := hide happ
      have HER := hide (fold_err (ls.take c) s)
      clear hx happ HI
      have hv : foldV ls s = .tuple #[.string (foldR ls s).1, .int .i64 (foldR ls s).2] := rfl
      have F1 := hide (fold_any a cap ls s wr L0.out (by omega) HX.out)
      have F2 : Hid (∀ W, Below wr.heap.size wr W → Calls Try.prog 79 #[.slice a ls.length cap, .string s] W fun e W' => e = .returned (foldV ls s) ∧ Below W.heap.size W W') := hide fun W hW => rfold_any a cap ls s W (came_upL L0.out hW) (by omega) HX.out
      have F3 : Hid (∀ W, Below wr.heap.size wr W → Calls Try.prog 78 #[.slice a c cap, .string s] W fun e W' => e = .returned (foldV (ls.take c) s) ∧ Below W.heap.size W W') := hide fun W hW => by
        have h := fold_any a cap (ls.take c) s W (take_lists c (came_upL L0.out hW)) (by rw [List.length_take]; omega) (fun y hy => HX.out y (List.mem_of_mem_take hy))
        rwa [List.length_take, Nat.min_eq_left hc] at h
      unfold foldV at F1 F2 F3
      have c1 : (c : Int) ≤ (cap : Int) := by omega
      have c2 : (c : Int) ≤ (ls.length : Int) := by omega
      have c3 : c ≤ ls.length := hc
      have c4 : c ≤ cap := by omega
      by_cases hg : (foldR (ls.take c) s).2 = 0
      · rw [if_pos hg] at HAP
        have HG := hide hg
        clear hg
        have F4 : Hid (∀ (a' : Option Addr) (cap' m : Nat) W, m = ls.length - c → CameL W.heap.size W a' (ls.drop c) → Calls Try.prog 78 #[.slice a' m cap', .string (foldR (ls.take c) s).1] W fun e W' => e = .returned (.tuple #[.string (foldR ls s).1, .int .i64 (foldR ls s).2]) ∧ Below W.heap.size W W') := hide fun a' cap' m W hm hW => by
          subst hm
          have h := fold_any a' cap' (ls.drop c) (foldR (ls.take c) s).1 W hW (by rw [List.length_drop]; omega) (fun y hy => HX.out y (List.mem_of_mem_drop hy))
          rw [List.length_drop, foldV, ← HAP.out] at h
          exact h
        rw [HG.out] at F3
        generalize (foldR (ls.take c) s).1 = t1 at *
        generalize (foldR ls s).1 = t0 at *
        generalize (foldR ls s).2 = e0 at *
        have hdrop : ∀ b off, a = some ⟨b, off, none⟩ → ∀ W, Below wr.heap.size wr W → CameL W.heap.size W (some ⟨b, off + c, none⟩) (ls.drop c) := fun b off e W hW => by
          have := came_upL L0.out hW
          rw [e] at this
          exact drop_lists c this
        have HDR := hide hdrop
        clear hdrop HAP hv
        go_wp2_with (go_at_call 78; refine F1.out.mono ?_; rintro e W1 ⟨rfl, hb⟩; have HB1 := hide hb; clear hb F1)
        go_wp2_with (go_at_call 79; refine (F2.out W1 HB1.out).mono ?_; rintro e W2 ⟨rfl, hb⟩; have HB2 := hide (HB1.out.trans (hb.mono HB1.out.size)); clear hb F2)
        have hD : ∀ (a' : Option Addr) W, Below wr.heap.size wr W → (ls.length ≤ c ∨ ∃ ad, a = some ad ∧ a' = some (ad.add c)) → CameL W.heap.size W a' (ls.drop c) := fun a' W hW h => by
          rcases h with h | ⟨ad, e1, e2⟩
          · exact .inl (List.drop_eq_nil_of_le h)
          · rcases L0.out with h | ⟨b, off, e, _⟩
            · rw [h]; exact .inl (by simp)
            · rw [e1] at e
              cases e
              rw [e2, Addr.add_lit]
              exact HDR.out b off e1 W hW
        have HD := hide hD
        have HCN := hide hcn
        clear hD hcn HDR
        rcases hso : a with _ | ad
        · have hz : cap = 0 := HCN.out hso
          have hz2 : ls.length = 0 := by omega
          have hz3 : c = 0 := by omega
          subst hso hz hz3
          rw [hz2] at *
          go_wp2_with (go_at_call 78; refine (F3.out W2 HB2.out).mono ?_; rintro e W3 ⟨rfl, hb⟩; have HB3 := hide (HB2.out.trans (hb.mono HB2.out.size)); clear hb F3)
          go_wp2_with (go_at_call 78; refine (F4.out none 0 0 W3 rfl (HD.out _ W3 HB3.out (.inl (Nat.le_refl _)))).mono ?_; rintro e W4 ⟨rfl, hb⟩; have HB4 := hide (HB3.out.trans (hb.mono HB3.out.size)); clear hb F4)
          go_wp2_with (go_at_call 69; refine (lives7_any W4).mono ?_; rintro e W5 ⟨rfl, hb⟩; have HB5 := hide (HB4.out.trans (hb.mono HB4.out.size)); clear hb)
          go_ret
          exact ⟨rfl, HB0.out.trans (HB5.out.mono HB0.out.size)⟩
        · subst hso
          by_cases hcc : cap = c
          · subst hcc
            go_wp2_with (go_at_call 78; refine (F3.out W2 HB2.out).mono ?_; rintro e W3 ⟨rfl, hb⟩; have HB3 := hide (HB2.out.trans (hb.mono HB2.out.size)); clear hb F3)
            go_wp2_with (go_at_call 78; refine (F4.out (some ad) 0 0 W3 (by omega) (HD.out _ W3 HB3.out (.inl hcap))).mono ?_; rintro e W4 ⟨rfl, hb⟩; have HB4 := hide (HB3.out.trans (hb.mono HB3.out.size)); clear hb F4)
            go_wp2_with (go_at_call 69; refine (lives7_any W4).mono ?_; rintro e W5 ⟨rfl, hb⟩; have HB5 := hide (HB4.out.trans (hb.mono HB4.out.size)); clear hb)
            go_ret
            exact ⟨rfl, HB0.out.trans (HB5.out.mono HB0.out.size)⟩
          · have hcc' : cap - c ≠ 0 := by omega
            go_wp2_with (go_at_call 78; refine (F3.out W2 HB2.out).mono ?_; rintro e W3 ⟨rfl, hb⟩; have HB3 := hide (HB2.out.trans (hb.mono HB2.out.size)); clear hb F3)
            go_wp2_with (go_at_call 78; refine (F4.out (some (ad.add c)) (cap - c) (ls.length - c) W3 rfl (HD.out _ W3 HB3.out (.inr ⟨_, rfl, rfl⟩))).mono ?_; rintro e W4 ⟨rfl, hb⟩; have HB4 := hide (HB3.out.trans (hb.mono HB3.out.size)); clear hb F4)
            go_wp2_with (go_at_call 69; refine (lives7_any W4).mono ?_; rintro e W5 ⟨rfl, hb⟩; have HB5 := hide (HB4.out.trans (hb.mono HB4.out.size)); clear hb)
            go_ret
            exact ⟨rfl, HB0.out.trans (HB5.out.mono HB0.out.size)⟩
      · rw [if_neg hg] at HAP
        have h60 : (foldR (ls.take c) s).2 = 60 := HER.out.resolve_left hg
        rw [h60] at F3
        rw [HAP.out] at F1 F2
        clear hg h60 HAP hv
        generalize (foldR (ls.take c) s).1 = t1 at *
        go_wp2_with (go_at_call 78; refine F1.out.mono ?_; rintro e W1 ⟨rfl, hb⟩; have HB1 := hide hb; clear hb F1)
        go_wp2_with (go_at_call 79; refine (F2.out W1 HB1.out).mono ?_; rintro e W2 ⟨rfl, hb⟩; have HB2 := hide (HB1.out.trans (hb.mono HB1.out.size)); clear hb F2)
        go_wp2_with (go_at_call 78; refine (F3.out W2 HB2.out).mono ?_; rintro e W3 ⟨rfl, hb⟩; have HB3 := hide (HB2.out.trans (hb.mono HB2.out.size)); clear hb F3)
        go_wp2_with (go_at_call 69; refine (lives7_any W3).mono ?_; rintro e W4 ⟨rfl, hb⟩; have HB4 := hide (HB3.out.trans (hb.mono HB3.out.size)); clear hb)
        go_ret
        exact ⟨rfl, HB0.out.trans (HB4.out.mono HB0.out.size)⟩

end Go.Proofs.Ytpmijaplkbmbiaa.E
