/- The index of lines: change. -/
import Derived.Test.YtpmijaplkbmbiaaIdx5
namespace Go.Proofs.Ytpmijaplkbmbiaa.I
open Go.Proofs.Ytpmijaplkbmbiaa Go.RowKit Go.By Go.Shelf
set_option linter.unusedVariables false

theorem below_only {W W' : World} (h : Below W.heap.size W W') (S : Nat → Prop) : Only S W W' := ⟨h.os, h.tape, h.output, h.size, fun k hk _ => h.block k hk⟩
theorem below_drew {W W' : World} (h : Below W.drew.heap.size W.drew W') : Below W.heap.size W W' := ⟨h.os, h.tape, h.output, h.size, h.block⟩
theorem below_drewN2 {W W' : World} {q : Nat} (h : Below (W.drewN q).heap.size (W.drewN q) W') : Below W.heap.size W W' := ⟨h.os, h.tape, h.output, h.size, h.block⟩

/-- The row's later part moved. -/
def Shifted (W W' : World) (k cap : Nat) (ys : List Int) : Prop := ∃ L : List Value, W'.heap[k]? = some (.cells L.toArray 3 (0, 0)) ∧ L.length = cap ∧ L.take ys.length = ints ys ∧ Only (fun x => x = k) W W'

theorem below_of_alloc {W w' : World} {o : Obj} (h : w' = W.alloc o) : Below W.heap.size W w' := by subst h; exact (Below.refl _ W).alloc (Nat.le_refl _) _
theorem cell_of_alloc {W w' : World} {m : Int} (h : w' = W.alloc (.cells #[.int .i64 m] 3)) : w'.cell? ⟨W.heap.size, 0, none⟩ = some (.int .i64 m) := by
  subst h; rw [Joins.cell_of_block (World.alloc_heap_new W _)]; rfl

theorem dec_row {L : List Value} {xs : List Int} (ht : L.take xs.length = ints xs) (c : Nat) : L = ints (xs.take c) ++ (ints (xs.drop c) ++ L.drop xs.length) := by
  have e : ints xs = ints (xs.take c) ++ ints (xs.drop c) := by rw [← List.map_append, List.take_append_drop]
  rw [← List.append_assoc, ← e, ← ht, List.take_append_drop]

theorem shifted_of {W w' W' : World} {k cap c : Nat} {m : Int} {xs : List Int} {L : List Value} (hL : L.length = cap) (hc : c ≤ xs.length) (hlc : xs.length ≤ cap) (hlt : k < W.heap.size) (hb : Below W.heap.size W w') (hm : Moved w' W' k (ints (xs.take c)) ((xs.drop c).map (· + m)) (L.drop xs.length)) : Shifted W W' k cap (xs.take c ++ (xs.drop c).map (· + m)) := by
  refine ⟨_, hm.1, ?_, ?_, (below_only hb _).trans hm.2⟩
  · simp [ints, hL]; omega
  · rw [← List.append_assoc, List.take_left' (by simp [ints])]
    simp [ints]

theorem cut_mono {xs : List Int} {a b : Int} {c1 c2 : Nat} (h1 : Cut xs a c1) (h2 : Cut xs b c2) (hab : a ≤ b) : c1 ≤ c2 := by
  rcases Nat.lt_or_ge c2 c1 with hlt | hge
  · have a1 := h1.lo c2 hlt
    have a2 := h2.hi c2 (Nat.le_refl _) (by have := h1.le; omega)
    omega
  · exact hge

theorem slice_of {W : World} {B : Nat} {v : Value} {F : List Int} (h : W.ownsRow B 3 1 v F.length (ints F)) : ∃ a c, v = .slice a F.length c := by
  rcases row_open h with ⟨rfl, rfl⟩ | ⟨k, cap, L, rfl, _⟩
  · exact ⟨none, 0, rfl⟩
  · exact ⟨_, _, rfl⟩

/-- All of a row, moved. -/
theorem moveAll_row {W : World} {B h : Nat} {a : Option Addr} {c : Nat} {F : List Int} {m : Int} (hr : W.ownsRow B 3 1 (.slice a F.length c) F.length (ints F)) (hh : W.cell? ⟨h, 0, none⟩ = some (.int .i64 m)) (hne : ∀ x, (Value.slice a F.length c).ownBlock = some x → h ≠ x)
    (hz : ∀ z ∈ F, -1000000000 ≤ z ∧ z ≤ 1000000000) (hm : -1000000000 ≤ m ∧ m ≤ 1000000000) (hl : F.length ≤ 1000000) :
    Calls Try.prog 126 #[.slice a F.length c, .func (.func 151) #[] #[.pointer (some ⟨h, 0, none⟩)]] W fun e W' => e = .returned (.tuple #[]) ∧ W'.ownsRow B 3 1 (.slice a F.length c) F.length (ints (F.map (· + m))) ∧ Only (fun x => some x = (Value.slice a F.length c).ownBlock) W W' := by
  rcases row_open hr with ⟨e, rfl⟩ | ⟨k, cap, L, e, hkB, hkh, hc, hcm, hL, ht⟩
  · cases e
    refine (moveAll_none _ _ _ _).mono ?_
    rintro e W' ⟨rfl, rfl⟩
    exact ⟨rfl, by simpa using hr, Only.refl _ _⟩
  · cases e
    have hd : L = [] ++ (ints F ++ L.drop F.length) := by rw [List.nil_append, ← ht, List.take_append_drop]
    refine (moveAll_some W k 0 F.length c h m [] (L.drop F.length) F rfl rfl (by rw [← hd]; exact hkh) hh (hne k rfl) hz hm hl).mono ?_
    rintro e W' ⟨rfl, h1, h2⟩
    refine ⟨rfl, ?_, h2.mono fun x _ e => by rw [e]; rfl⟩
    have := row_of_block (qs := F.map (· + m)) hkB h1 (by simp [ints, hL]; omega) (by simpa using hc) hcm (by simp [ints])
    simpa using this

set_option maxRecDepth 20000 in
set_option maxHeartbeats 8000000 in
theorem change_any {W : World} {B g k cap n d : Nat} {xs : List Int} {N : Nat} {add : ByteArray} (hB : B ≤ W.heap.size) (h : IdxIs W B g (.slice (some ⟨k, 0, none⟩) xs.length cap) xs N) (hr : Rise xs) (hl : xs.length ≤ 100000) (hx : ∀ x ∈ xs, -100000 ≤ x ∧ x ≤ 100000) (hN : N ≤ 100000) (hnd : n + d ≤ N) (had : add.size ≤ 100000) :
    Calls Try.prog 92 #[.pointer (some ⟨g, 0, none⟩), .int .i64 (n : Int), .int .i64 (d : Int), .string add] W fun e W' => e = .returned (.tuple #[]) ∧ ∃ c1 c2 sv', Cut xs (n : Int) c1 ∧ Cut xs ((n : Int) + (d : Int)) c2 ∧ IdxIs W' B g sv' (xs.take c1 ++ (feeds add.data.toList 0).map (· + (n : Int)) ++ (xs.drop c2).map (· + ((add.size : Int) - (d : Int)))) (N - d + add.size) ∧ Only (fun x => x = g ∨ x = k) W W' ∧ (sv'.ownBlock = some k ∨ ∃ j, sv'.ownBlock = some j ∧ W.heap.size ≤ j) := by
  have w1 : IntKind.i64.wrap ((n : Int) + (d : Int)) = (n : Int) + (d : Int) := by rw [IntKind.wrap_i64]; omega
  have w2 : IntKind.i64.wrap ((add.size : Int) - (d : Int)) = (add.size : Int) - (d : Int) := by rw [IntKind.wrap_i64]; omega
  have w3 : IntKind.i64.wrap ((N : Int) + ((add.size : Int) - (d : Int))) = (N : Int) + ((add.size : Int) - (d : Int)) := by rw [IntKind.wrap_i64]; omega
  have hb1 := begun_any (n : Int) h hr (by omega)
  have H := hide h
  have HR := hide hr
  have HX := hide hx
  clear h hr hx
  go_enter Try.func92, Try.ntmps92
  go_wp2_with fail
  refine hb1.mono ?_
  rintro e W1 ⟨⟨c1, rfl, hc1⟩, hbl1⟩
  have H1 := hide (H.out.below hbl1)
  have HC1 := hide hc1
  have HB1 := hide hbl1
  clear hc1 hbl1 hb1
  go_wp2_with fail
  refine (begun_any ((n : Int) + (d : Int)) H1.out HR.out (by omega)).mono ?_
  rintro e W2 ⟨⟨c2, rfl, hc2⟩, hbl2⟩
  have H2 := hide (H1.out.below hbl2)
  have HC2 := hide hc2
  have HB2 := hide (HB1.out.trans (hbl2.mono HB1.out.size))
  have hc2l := hc2.le
  obtain ⟨L, hkh, hkB, hlc, hcm, hLc, hLt⟩ : ∃ L : List Value, W2.heap[k]? = some (.cells L.toArray 3 (0, 0)) ∧ B ≤ k ∧ xs.length ≤ cap ∧ cap ≤ maxLen ∧ L.length = cap ∧ L.take xs.length = ints xs := by
    rcases row_open H2.out.row with ⟨e, _⟩ | ⟨_, _, L, e, hB, hh, hc, hcm, hL, ht⟩
    · cases e
    · cases e; exact ⟨L, hh, hB, hc, hcm, hL, ht⟩
  have hkl := lt_of_heap hkh
  have hgl := lt_of_heap H2.out.blk
  have hgk : g ≠ k := fun e => by have h5 := H2.out.blk; rw [e, hkh] at h5; cases h5
  have c0 := H2.out.c0
  have d1 : (c2 : Int) ≤ (cap : Int) := by omega
  have d2 : (c2 : Int) ≤ (xs.length : Int) := by omega
  have d3 : c2 ≤ cap := by omega
  have HKH := hide hkh
  have HLT := hide hLt
  have HLC := hide hLc
  have HCM := hide hcm
  clear hc2 hbl2 H1 HB1 hkh hLt hLc hcm
  go_wp2_with fail
  go_cut [] from 24 to 58 (fun wc => Hid (Shifted W2 wc k cap (xs.take c2 ++ (xs.drop c2).map (· + ((add.size : Int) - (d : Int))))))
  case first =>
    by_cases hce : cap = c2
    · have hxl : xs.length = c2 := by omega
      have HS : Hid (∀ w', Below W2.heap.size W2 w' → Shifted W2 w' k cap (xs.take c2 ++ (xs.drop c2).map (· + ((add.size : Int) - (d : Int))))) := hide fun w' hb => by
        refine ⟨L, (hb.block k hkl).trans HKH.out, HLC.out, ?_, below_only hb _⟩
        rw [← hxl, List.take_length, List.drop_length]
        simpa using HLT.out
      go_region_with (first
        | (go_at_call 127; refine (by_any _ _).mono ?_; rintro e w' ⟨rfl, hw'⟩; have hbw : Below W2.heap.size W2 w' := (by first | exact below_of_alloc hw' | exact below_drew (below_of_alloc hw') | exact below_drewN2 (below_of_alloc hw')); have cw : w'.cell? ⟨g, 0, none⟩ = some (.slice (some ⟨k, 0, none⟩) xs.length cap) := (hbw.cell (p := ⟨g, 0, none⟩) hgl).trans c0; have HBW := hide hbw; clear hw' hbw)
        | (go_at_call 126; refine (moveAll_none _ _ _ _).mono ?_; rintro e w4 ⟨rfl, hw4⟩; have HS4 := hide (HS.out _ HBW.out); have hw5 := hw4.symm; clear hw4; subst hw5))
      all_goals (go_wp2_with fail; go_meet; exact HS4)
    · have HZ : Hid (∀ z ∈ xs.drop c2, -1000000000 ≤ z ∧ z ≤ 1000000000) := hide fun z hz => by have := HX.out z (List.mem_of_mem_drop hz); omega
      have HKD : Hid (∀ w', Below W2.heap.size W2 w' → w'.heap[k]? = some (.cells (ints (xs.take c2) ++ (ints (xs.drop c2) ++ L.drop xs.length)).toArray 3 (0, 0))) := hide fun w' hb => by
        rw [← dec_row HLT.out c2]
        exact (hb.block k hkl).trans HKH.out
      have hP : (ints (xs.take c2)).length = c2 := by simp [ints]; omega
      have hn : (xs.drop c2).length = xs.length - c2 := by simp
      have HP := hide hP
      have HN := hide hn
      clear hP hn
      go_region_with (first
        | (go_at_call 127; refine (by_any _ _).mono ?_; rintro e w' ⟨rfl, hw'⟩; have hbw : Below W2.heap.size W2 w' := (by first | exact below_of_alloc hw' | exact below_drew (below_of_alloc hw') | exact below_drewN2 (below_of_alloc hw')); have cw : w'.cell? ⟨g, 0, none⟩ = some (.slice (some ⟨k, 0, none⟩) xs.length cap) := (hbw.cell (p := ⟨g, 0, none⟩) hgl).trans c0; have HBW := hide hbw; have HCW : Hid (w'.cell? ⟨W2.heap.size, 0, none⟩ = some (.int .i64 ((add.size : Int) - (d : Int)))) := (by have h5 := cell_of_alloc hw'; exact h5); clear hw' hbw)
        | (go_at_call 126; refine (moveAll_some _ k c2 (xs.length - c2) (cap - c2) W2.heap.size ((add.size : Int) - (d : Int)) (ints (xs.take c2)) (L.drop xs.length) (xs.drop c2) HP.out HN.out (HKD.out _ HBW.out) HCW.out (by omega) HZ.out (by omega) (by omega)).mono ?_; rintro e w4 ⟨rfl, hw4⟩; have HS4 := hide (shifted_of HLC.out hc2l hlc hkl HBW.out hw4); clear hw4))
      all_goals (go_wp2_with fail; go_meet; exact HS4)
  case rest =>
    obtain ⟨L3, h31, h32, h33, h34⟩ := hcut.out
    clear hcut
    have hc12 := cut_mono HC1.out HC2.out (by omega)
    have hyl : (xs.take c2 ++ (xs.drop c2).map (· + ((add.size : Int) - (d : Int)))).length = xs.length := by simp; omega
    have ht1 : (xs.take c2 ++ (xs.drop c2).map (· + ((add.size : Int) - (d : Int)))).take c1 = xs.take c1 := by
      rw [List.take_append_of_le_length (by simp; omega), List.take_take, Nat.min_eq_left hc12]
    have ht2 : (xs.take c2 ++ (xs.drop c2).map (· + ((add.size : Int) - (d : Int)))).drop c2 = (xs.drop c2).map (· + ((add.size : Int) - (d : Int))) := List.drop_left' (by simp; omega)
    have HT1 := hide ht1
    have HT2 := hide ht2
    clear ht1 ht2
    generalize xs.take c2 ++ (xs.drop c2).map (· + ((add.size : Int) - (d : Int))) = ys at *
    have I3 : IdxIs wc B g (.slice (some ⟨k, 0, none⟩) ys.length cap) ys N := ⟨H2.out.hB, by rw [hyl]; exact (h34.block g hgl hgk).trans H2.out.blk, row_of_block hkB h31 h32 (by omega) HCM.out h33⟩
    have HI3 := hide I3
    have HO3 := hide ((below_only HB2.out (fun x => x = g ∨ x = k)).trans (h34.mono fun x _ e => .inr e))
    have hsz3 := HO3.out.size
    have HYL := hide hyl
    clear I3 h31 h32 h33 h34 hyl c0
    go_wp2_with fail
    refine (begins_any add wc (by omega)).mono ?_
    rintro e W5 ⟨v, rfl, hr5, hb5⟩
    obtain ⟨va, vc, rfl⟩ := slice_of hr5
    have hFl := feeds_len add.data.toList 0
    have hFz : ∀ z ∈ feeds add.data.toList 0, -1000000000 ≤ z ∧ z ≤ 1000000000 := fun z hz => by have h6 := feeds_mem _ _ _ hz; have h7 : add.data.toList.length = add.size := rfl; omega
    have hasz : add.data.toList.length = add.size := rfl
    rw [hasz] at hFl
    generalize hF : feeds add.data.toList 0 = F at *
    have HF := hide hF
    clear hF
    have HFZ := hide hFz
    have HR5 := hide hr5
    have HB5 := hide hb5
    have HI5 := hide (HI3.out.below hb5)
    have hbl : ∀ x, (Value.slice va F.length vc).ownBlock = some x → wc.heap.size ≤ x ∧ x < W5.heap.size := fun x hx => ownBlock_lt hr5 hx
    have HBL := hide hbl
    clear hFz hr5 hb5 hbl hasz
    go_wp2_with fail
    refine (by_any _ _).mono ?_
    rintro e w6 ⟨rfl, hw6⟩
    have hb6 := below_of_alloc hw6
    have hc6 := cell_of_alloc hw6
    have HI6 := hide (HI5.out.below hb6)
    have HR6 := hide (ownsRow_same HR5.out fun x hx => hb6.block x (HBL.out x hx).2)
    have HB6 := hide hb6
    have hmv := moveAll_row HR6.out hc6 (fun x hx e => by have := (HBL.out x hx).2; omega) HFZ.out (by omega) (by omega)
    clear hw6 hb6 hc6
    go_wp2_with fail
    refine hmv.mono ?_
    rintro e w7 ⟨rfl, hr7, ho7⟩
    have hb7 : Below wc.heap.size wc w7 := (HB5.out.trans (HB6.out.mono HB5.out.size)).trans (ho7.below (by have := HB5.out.size; have := HB6.out.size; omega) (fun x hx => (HBL.out x hx.symm).1))
    have HI7 := hide (HI3.out.below hb7)
    have HB7 := hide hb7
    have hne7 : ∀ x, (Value.slice va F.length vc).ownBlock = some x → some x ≠ (Value.slice (some ⟨k, 0, none⟩) ys.length cap).ownBlock := fun x hx e => by
      have h8 := (HBL.out x hx).1
      have h9 : x = k := by simpa [Value.ownBlock] using e
      have h10 := (ownBlock_lt HI3.out.row (k := k) rfl).2
      omega
    have hB3 : B ≤ wc.heap.size := by have := HB2.out.size; omega
    have hB7 : B ≤ w7.heap.size := Nat.le_trans hB3 hb7.size
    have hv7 : w7.ownsRow B 3 1 (.slice va F.length vc) (F.map (· + (n : Int))).length (ints (F.map (· + (n : Int)))) := by rw [List.length_map]; exact Joins.ownsRow_le hr7 hB3
    have hyl := HYL.out
    have hrp := replace_all B _ _ ys (F.map (· + (n : Int))) c1 c2 w7 hB7 HI7.out.row hv7 hne7 hc12 (by omega) (by rw [List.length_map]; omega)
    have c07 := HI7.out.c0
    have c17 := HI7.out.c1
    clear hmv hr7 ho7 hb7 hne7 hv7 hyl
    go_wp2_with (go_at_call 129; refine hrp.mono ?_; rintro e w8 ⟨v8, rfl, h81, h82, h83⟩; obtain ⟨a8, m8, c8, rfl⟩ : ∃ a m c, v8 = .slice a m c := (let ⟨a, c, e⟩ := slice_of h81; ⟨a, _, c, e⟩); have hg8 : w8.heap[g]? = some (.cells #[.slice (some ⟨k, 0, none⟩) ys.length cap, .int .i64 (N : Int)] 75 (0, 0)) := (h82.block g (lt_of_heap HI7.out.blk) (fun e => hgk (by simpa [Value.ownBlock] using e))).trans HI7.out.blk; have q0 : w8.cell? ⟨g, 0, none⟩ = some (.slice (some ⟨k, 0, none⟩) ys.length cap) := (by rw [Joins.cell_of_block hg8]; rfl); have q1 : w8.cell? ⟨g, 1, none⟩ = some (.int .i64 (N : Int)) := (by rw [Joins.cell_of_block hg8]; rfl); have r0 : w8.frozen? ⟨g, 0, none⟩ = false := (by simp [World.frozen?, hg8]); have r1 : w8.frozen? ⟨g, 1, none⟩ = false := (by simp [World.frozen?, hg8]); have H81 := hide h81; have H82 := hide h82; have H83 := hide h83; have HG8 := hide hg8; clear h81 h82 h83 hg8 hrp c07 c17)
    go_end0
    have h1 := heap_setCell (i := 1) (heap_setCell (i := 0) HG8.out (.slice a8 m8 c8)) (.int .i64 ((N : Int) + ((add.size : Int) - (d : Int))))
    have hne8 : ∀ x, (Value.slice a8 m8 c8).ownBlock = some x → x ≠ g := fun x hx e => ownBlock_ne H81.out HG8.out (by decide) (by rw [hx, e])
    have hrow := ownsRow_same (w' := (w8.setCell ⟨g, 0, none⟩ (.slice a8 m8 c8)).setCell ⟨g, 1, none⟩ (.int .i64 ((N : Int) + ((add.size : Int) - (d : Int))))) H81.out (fun x hx => by rw [heap_setCell_ne _ (hne8 x hx), heap_setCell_ne _ (hne8 x hx)])
    have hos : Only (fun x => x = g ∨ x = k) w8 ((w8.setCell ⟨g, 0, none⟩ (.slice a8 m8 c8)).setCell ⟨g, 1, none⟩ (.int .i64 ((N : Int) + ((add.size : Int) - (d : Int))))) := (Only.setCell (S := fun x => x = g ∨ x = k) w8 ⟨g, 0, none⟩ _ (.inl rfl)).trans (Only.setCell (S := fun x => x = g ∨ x = k) _ ⟨g, 1, none⟩ _ (.inl rfl))
    refine ⟨rfl, c1, c2, .slice a8 m8 c8, HC1.out, HC2.out, ⟨HI3.out.hB, ?_, ?_⟩, ?_, ?_⟩
    · rw [show ((N - d + add.size : Nat) : Int) = (N : Int) + ((add.size : Int) - (d : Int)) by omega]
      simpa using h1
    · rw [HT1.out, HT2.out] at hrow
      rw [HF.out]
      exact hrow
    · exact ((HO3.out.trans (below_only HB7.out _)).trans (H82.out.mono fun x _ e => .inr (by simpa [Value.ownBlock] using e))).trans hos
    · rcases H83.out with e | ⟨j, e, hj⟩
      · exact .inl (e.trans rfl)
      · exact .inr ⟨j, e, by have := HB7.out.size; omega⟩

end Go.Proofs.Ytpmijaplkbmbiaa.I
