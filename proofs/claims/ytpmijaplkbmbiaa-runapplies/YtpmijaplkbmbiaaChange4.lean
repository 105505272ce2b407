/- The buffer: change, walked. -/
import Derived.Test.YtpmijaplkbmbiaaChange3
namespace Go.Proofs.Ytpmijaplkbmbiaa
open Go.RowKit Go.By Go.Shelf
set_option linter.unusedVariables false
set_option linter.unusedSimpArgs false

theorem slice_of_row {w : World} {B : Nat} {E : TypeId} {v : Value} {n : Nat} {l : List Value} (h : w.ownsRow B E 1 v n l) : ∃ a m c, v = .slice a m c := by
  rcases h.2 with ⟨rfl, _⟩ | ⟨g, c, cur, rfl, _⟩
  · exact ⟨_, _, _, rfl⟩
  · exact ⟨_, _, _, rfl⟩

theorem toList_isEmpty {s : ByteArray} (h : s ≠ ⟨#[]⟩) : s.toList.isEmpty = false := by
  rw [List.isEmpty_eq_false_iff]
  intro e
  apply h
  apply ByteArray.ext
  apply Array.toList_inj.1
  rw [← ByteArray.toList_eq]
  exact e

theorem toList_some {s : ByteArray} (h : s.size ≠ 0) : s.toList.isEmpty = false := toList_isEmpty (fun e => h (by rw [e]; rfl))
theorem toList_none {s : ByteArray} (h : s.size = 0) : s.toList.isEmpty = true := by
  rw [List.isEmpty_iff, ByteArray.toList_eq]
  exact List.length_eq_zero_iff.1 (by rw [Array.length_toList]; exact h)

set_option maxRecDepth 20000 in
set_option maxHeartbeats 2000000 in
theorem change_kasz {W : World} {B g : Nat} {sv : Value} {lent : Bool} {ps : List ByteArray} {s : ByteArray} {n k f a l z : Nat} {kb cap : Nat} (hk : Know W B g sv lent ps s n k f a l z) (hsv : sv = .slice (some ⟨kb, 0, none⟩) ps.length cap) (hcf : ∀ w, Below W.heap.size W w → w.cell? ⟨kb, f, none⟩ = some (.string (at' ps f))) (hf : f < ps.length) (ha : a < (at' ps f).size) (hcl : ∀ w, Below W.heap.size W w → w.cell? ⟨kb, l, none⟩ = some (.string (at' ps l))) (hl : l < ps.length) (hz : z < (at' ps l).size) (ha0 : 0 < a) (hz0' : 0 < z) (hk0 : 0 < k) (hs0 : s.size ≠ 0) (hnk : n + k ≤ 16777216) (hss : s.size ≤ 16777216) (htt : tot ps ≤ 16777216) (hll : l ≤ 16777216) (hsm1 : (at' ps f).size ≤ 16777216) (hsm2 : (at' ps l).size ≤ 16777216) :
    Calls Try.prog 86 #[.pointer (some ⟨g, 0, none⟩), .int .i64 (n : Int), .int .i64 (k : Int), .string s] W fun e W' => e = .returned (.tuple #[]) ∧ ∃ sv', BufIs W' B g sv' false (chg ps s f a l z) ∧ Chg g sv sv' lent W W' := by
  obtain ⟨i0, hi, hz0, hz1, hz2⟩ := info_parts (show (Try.prog.info? 9).map (fun i => (i.zero, i.size, i.bytes)) = some (some (.string ⟨#[]⟩), 1, 16) by kernel_rfl)
  have HBY : head' ps f a ++ mid' s ++ tail' ps l z = [(at' ps f).extract 0 a, s, (at' ps l).extract z (at' ps l).size] := by
    simp [head', mid', tail', ha0, hz0', hs0]
  have hrep : ∀ w4 w5 sv' bv, Below W.heap.size W w4 → w4.ownsRow W.heap.size 9 1 bv 3 [.string ((at' ps f).extract 0 a), .string (s), .string ((at' ps l).extract z (at' ps l).size)] → (([(at' ps f).extract 0 a, s, (at' ps l).extract z (at' ps l).size] : List ByteArray) = [] → bv = .slice none 0 0) → BufIs w5 B g sv' false ps → Chg g sv sv' lent w4 w5 →
      Calls Try.prog 122 #[sv', .int .i64 (f : Int), .int .i64 ((l : Int) + 1), bv] w5 fun e w6 => ∃ v', e = .returned v' ∧ Changed W w6 B g sv v' lent ps (chg ps s f a l z) := by
    have h := hk.rep
    rw [HBY, show ((past l z : Nat) : Int) = (l : Int) + 1 by simp [past, hz0']] at h
    exact h
  have HF := hide hk.fin
  have HK := hide hk
  have w1 : IntKind.i64.wrap ((n : Int) + (k : Int)) = (n : Int) + (k : Int) := by rw [IntKind.wrap_i64]; omega
  have w2 : IntKind.i64.wrap ((l : Int) + 1) = (l : Int) + 1 := by rw [IntKind.wrap_i64]; omega
  have w3 : IntKind.i64.wrap ((s.size : Int) - (k : Int)) = (s.size : Int) - (k : Int) := by rw [IntKind.wrap_i64]; omega
  have w4 : IntKind.i64.wrap ((tot ps : Int) + ((s.size : Int) - (k : Int))) = (tot ps : Int) + ((s.size : Int) - (k : Int)) := by rw [IntKind.wrap_i64]; omega
  have k1 : ¬ (k : Int) = 0 := by omega
  have k2 : (0 : Int) < (k : Int) := by omega
  have z2 : (0 : Int) < (z : Int) := by omega
  have a2 : (0 : Int) < (a : Int) := by omega
  have s1 : s.toList.isEmpty = false := toList_some hs0
  have HREP := hide hrep
  generalize at' ps f = pf at *
  generalize at' ps l = pl at *
  have HCF := hide hcf
  have HCL := hide hcl
  clear hk HBY hrep hs0 hcf hcl
  subst hsv
  go_enter Try.func86, Try.ntmps86
  go_wp2_with (first
    | (go_at_call 91; refine (HK.out.f2 _ HB.out).mono ?_; clear HB; rintro e w2 ⟨rfl, hb⟩; have HB := hide hb; have d3 := HK.out.c3 _ hb; (try have df := HCF.out _ hb); (try have dl := HCL.out _ hb); clear hb)
    | (go_at_call 91; refine HK.out.f1.mono ?_; rintro e w1 ⟨rfl, hb⟩; have HB := hide hb; have d3 := HK.out.c3 _ hb; (try have df := HCF.out _ hb); (try have dl := HCL.out _ hb); clear hb)
    | (at_builtin; refine wpList_append_own _ rfl (.tmp 39) (.tmp 49) 29 rfl W.heap.size 9 i0 (.string ⟨#[]⟩) 1 16 Try.underlying29 hi hz0 hz1 hz2 rfl (by decide) _ _ _ rfl (by first | exact HR.out.alloc _ | exact World.ownsRow_nil _ _ _ _) ⟨_, 0, none⟩ 1 1 [.string (pf.extract 0 a)] rfl rfl (cell_one_new _ _ _) (by simp [Value.oneCell']) (by unfold maxLen; omega) (by omega) (by have := HB.out.size; simp; omega) ?_; intro v1 w3 hr hg hx; clear hx; simp only [Nat.zero_add, List.nil_append, Nat.reduceAdd, List.cons_append] at hr; have hbn := (HB.out.alloc (by have := HB.out.size; omega) _).grown hg (by simp; have := HB.out.size; omega) (fun k hk => by first | exact (ownBlock_lt HR.out hk).1 | cases hk); (try clear HR); clear HB; have HB := hide hbn; have HR := hide hr; have d3 := HK.out.c3 _ hbn; (try have df := HCF.out _ hbn); (try have dl := HCL.out _ hbn); clear hbn hr hg)
    | (at_builtin; refine wpList_append_own _ rfl (.tmp 53) (.tmp 55) 29 rfl W.heap.size 9 i0 (.string ⟨#[]⟩) 1 16 Try.underlying29 hi hz0 hz1 hz2 rfl (by decide) _ _ _ rfl (by first | exact HR.out.alloc _ | exact World.ownsRow_nil _ _ _ _) ⟨_, 0, none⟩ 1 1 [.string s] rfl rfl (cell_one_new _ _ _) (by simp [Value.oneCell']) (by unfold maxLen; omega) (by omega) (by have := HB.out.size; simp; omega) ?_; intro v2 w4 hr hg hx; clear hx; simp only [Nat.zero_add, List.nil_append, Nat.reduceAdd, List.cons_append] at hr; have hbn := (HB.out.alloc (by have := HB.out.size; omega) _).grown hg (by simp; have := HB.out.size; omega) (fun k hk => by first | exact (ownBlock_lt HR.out hk).1 | cases hk); (try clear HR); clear HB; have HB := hide hbn; have HR := hide hr; have d3 := HK.out.c3 _ hbn; (try have df := HCF.out _ hbn); (try have dl := HCL.out _ hbn); clear hbn hr hg)
    | (at_builtin; refine wpList_append_own _ rfl (.tmp 59) (.tmp 69) 29 rfl W.heap.size 9 i0 (.string ⟨#[]⟩) 1 16 Try.underlying29 hi hz0 hz1 hz2 rfl (by decide) _ _ _ rfl (by first | exact HR.out.alloc _ | exact World.ownsRow_nil _ _ _ _) ⟨_, 0, none⟩ 1 1 [.string (pl.extract z pl.size)] rfl rfl (cell_one_new _ _ _) (by simp [Value.oneCell']) (by unfold maxLen; omega) (by omega) (by have := HB.out.size; simp; omega) ?_; intro v3 w5 hr hg hx; clear hx; simp only [Nat.zero_add, List.nil_append, Nat.reduceAdd, List.cons_append] at hr; have hbn := (HB.out.alloc (by have := HB.out.size; omega) _).grown hg (by simp; have := HB.out.size; omega) (fun k hk => by first | exact (ownBlock_lt HR.out hk).1 | cases hk); (try clear HR); clear HB; have HB := hide hbn; have HR := hide hr; have d3 := HK.out.c3 _ hbn; (try have df := HCF.out _ hbn); (try have dl := HCL.out _ hbn); clear hbn hr hg)
    | (go_at_call 121; refine (HK.out.own _ HB.out).mono ?_; rintro e w6 ⟨rfl, sv', h6, hc6⟩; have d6 : w6.cell? ⟨g, 3, none⟩ = some sv' := (by rw [Joins.cell_of_block h6.blk]; rfl); have H6 := hide h6; have HC6 := hide hc6; clear h6 hc6)
    | (go_at_call 122; refine (HREP.out _ _ _ _ HB.out (by first | exact HR.out | exact World.ownsRow_nil _ _ _ _) (by first | exact (fun _ => rfl) | exact (fun e => by cases e)) H6.out HC6.out).mono ?_; rintro e w7 ⟨v7, rfl, hch⟩; obtain ⟨a7, m7, c7, rfl⟩ := slice_of_row hch.row; have q2 : w7.cell? ⟨g, 2, none⟩ = some (.int .i64 (tot ps : Int)) := (by obtain ⟨u, hu⟩ := hch.blk; rw [Joins.cell_of_block hu]; rfl); have r2 : w7.frozen? ⟨g, 2, none⟩ = false := (by obtain ⟨u, hu⟩ := hch.blk; simp [World.frozen?, hu]); obtain ⟨q3v, q3⟩ : ∃ u, w7.cell? ⟨g, 3, none⟩ = some u := (by obtain ⟨u, hu⟩ := hch.blk; exact ⟨u, by rw [Joins.cell_of_block hu]; rfl⟩); have r3 : w7.frozen? ⟨g, 3, none⟩ = false := (by obtain ⟨u, hu⟩ := hch.blk; simp [World.frozen?, hu]); have HCH := hide hch; clear hch HREP))
  go_end0
  exact ⟨rfl, _, HF.out _ _ HCH.out⟩

set_option maxRecDepth 20000 in
set_option maxHeartbeats 2000000 in
theorem change_kaso {W : World} {B g : Nat} {sv : Value} {lent : Bool} {ps : List ByteArray} {s : ByteArray} {n k f a l z : Nat} {kb cap : Nat} (hk : Know W B g sv lent ps s n k f a l z) (hsv : sv = .slice (some ⟨kb, 0, none⟩) ps.length cap) (hcf : ∀ w, Below W.heap.size W w → w.cell? ⟨kb, f, none⟩ = some (.string (at' ps f))) (hf : f < ps.length) (ha : a < (at' ps f).size) (ha0 : 0 < a) (hz0' : ¬ 0 < z) (hk0 : 0 < k) (hs0 : s.size ≠ 0) (hnk : n + k ≤ 16777216) (hss : s.size ≤ 16777216) (htt : tot ps ≤ 16777216) (hll : l ≤ 16777216) (hsm1 : (at' ps f).size ≤ 16777216) :
    Calls Try.prog 86 #[.pointer (some ⟨g, 0, none⟩), .int .i64 (n : Int), .int .i64 (k : Int), .string s] W fun e W' => e = .returned (.tuple #[]) ∧ ∃ sv', BufIs W' B g sv' false (chg ps s f a l z) ∧ Chg g sv sv' lent W W' := by
  obtain ⟨i0, hi, hz0, hz1, hz2⟩ := info_parts (show (Try.prog.info? 9).map (fun i => (i.zero, i.size, i.bytes)) = some (some (.string ⟨#[]⟩), 1, 16) by kernel_rfl)
  have HBY : head' ps f a ++ mid' s ++ tail' ps l z = [(at' ps f).extract 0 a, s] := by
    simp [head', mid', tail', ha0, hz0', hs0]
  have hrep : ∀ w4 w5 sv' bv, Below W.heap.size W w4 → w4.ownsRow W.heap.size 9 1 bv 2 [.string ((at' ps f).extract 0 a), .string (s)] → (([(at' ps f).extract 0 a, s] : List ByteArray) = [] → bv = .slice none 0 0) → BufIs w5 B g sv' false ps → Chg g sv sv' lent w4 w5 →
      Calls Try.prog 122 #[sv', .int .i64 (f : Int), .int .i64 (l : Int), bv] w5 fun e w6 => ∃ v', e = .returned v' ∧ Changed W w6 B g sv v' lent ps (chg ps s f a l z) := by
    have h := hk.rep
    rw [HBY, show ((past l z : Nat) : Int) = (l : Int) by simp [past, hz0']] at h
    exact h
  have HF := hide hk.fin
  have HK := hide hk
  have w1 : IntKind.i64.wrap ((n : Int) + (k : Int)) = (n : Int) + (k : Int) := by rw [IntKind.wrap_i64]; omega
  have w2 : IntKind.i64.wrap ((l : Int) + 1) = (l : Int) + 1 := by rw [IntKind.wrap_i64]; omega
  have w3 : IntKind.i64.wrap ((s.size : Int) - (k : Int)) = (s.size : Int) - (k : Int) := by rw [IntKind.wrap_i64]; omega
  have w4 : IntKind.i64.wrap ((tot ps : Int) + ((s.size : Int) - (k : Int))) = (tot ps : Int) + ((s.size : Int) - (k : Int)) := by rw [IntKind.wrap_i64]; omega
  have k1 : ¬ (k : Int) = 0 := by omega
  have k2 : (0 : Int) < (k : Int) := by omega
  have z2 : ¬ (0 : Int) < (z : Int) := by omega
  have a2 : (0 : Int) < (a : Int) := by omega
  have s1 : s.toList.isEmpty = false := toList_some hs0
  have HREP := hide hrep
  generalize at' ps f = pf at *
  have HCF := hide hcf
  clear hk HBY hrep hs0 hcf
  subst hsv
  go_enter Try.func86, Try.ntmps86
  go_wp2_with (first
    | (go_at_call 91; refine (HK.out.f2 _ HB.out).mono ?_; clear HB; rintro e w2 ⟨rfl, hb⟩; have HB := hide hb; have d3 := HK.out.c3 _ hb; (try have df := HCF.out _ hb); (try have dl := HCL.out _ hb); clear hb)
    | (go_at_call 91; refine HK.out.f1.mono ?_; rintro e w1 ⟨rfl, hb⟩; have HB := hide hb; have d3 := HK.out.c3 _ hb; (try have df := HCF.out _ hb); (try have dl := HCL.out _ hb); clear hb)
    | (at_builtin; refine wpList_append_own _ rfl (.tmp 39) (.tmp 49) 29 rfl W.heap.size 9 i0 (.string ⟨#[]⟩) 1 16 Try.underlying29 hi hz0 hz1 hz2 rfl (by decide) _ _ _ rfl (by first | exact HR.out.alloc _ | exact World.ownsRow_nil _ _ _ _) ⟨_, 0, none⟩ 1 1 [.string (pf.extract 0 a)] rfl rfl (cell_one_new _ _ _) (by simp [Value.oneCell']) (by unfold maxLen; omega) (by omega) (by have := HB.out.size; simp; omega) ?_; intro v1 w3 hr hg hx; clear hx; simp only [Nat.zero_add, List.nil_append, Nat.reduceAdd, List.cons_append] at hr; have hbn := (HB.out.alloc (by have := HB.out.size; omega) _).grown hg (by simp; have := HB.out.size; omega) (fun k hk => by first | exact (ownBlock_lt HR.out hk).1 | cases hk); (try clear HR); clear HB; have HB := hide hbn; have HR := hide hr; have d3 := HK.out.c3 _ hbn; (try have df := HCF.out _ hbn); (try have dl := HCL.out _ hbn); clear hbn hr hg)
    | (at_builtin; refine wpList_append_own _ rfl (.tmp 53) (.tmp 55) 29 rfl W.heap.size 9 i0 (.string ⟨#[]⟩) 1 16 Try.underlying29 hi hz0 hz1 hz2 rfl (by decide) _ _ _ rfl (by first | exact HR.out.alloc _ | exact World.ownsRow_nil _ _ _ _) ⟨_, 0, none⟩ 1 1 [.string s] rfl rfl (cell_one_new _ _ _) (by simp [Value.oneCell']) (by unfold maxLen; omega) (by omega) (by have := HB.out.size; simp; omega) ?_; intro v2 w4 hr hg hx; clear hx; simp only [Nat.zero_add, List.nil_append, Nat.reduceAdd, List.cons_append] at hr; have hbn := (HB.out.alloc (by have := HB.out.size; omega) _).grown hg (by simp; have := HB.out.size; omega) (fun k hk => by first | exact (ownBlock_lt HR.out hk).1 | cases hk); (try clear HR); clear HB; have HB := hide hbn; have HR := hide hr; have d3 := HK.out.c3 _ hbn; (try have df := HCF.out _ hbn); (try have dl := HCL.out _ hbn); clear hbn hr hg)
    | (at_builtin; refine wpList_append_own _ rfl (.tmp 59) (.tmp 69) 29 rfl W.heap.size 9 i0 (.string ⟨#[]⟩) 1 16 Try.underlying29 hi hz0 hz1 hz2 rfl (by decide) _ _ _ rfl (by first | exact HR.out.alloc _ | exact World.ownsRow_nil _ _ _ _) ⟨_, 0, none⟩ 1 1 [.string s] rfl rfl (cell_one_new _ _ _) (by simp [Value.oneCell']) (by unfold maxLen; omega) (by omega) (by have := HB.out.size; simp; omega) ?_; intro v3 w5 hr hg hx; clear hx; simp only [Nat.zero_add, List.nil_append, Nat.reduceAdd, List.cons_append] at hr; have hbn := (HB.out.alloc (by have := HB.out.size; omega) _).grown hg (by simp; have := HB.out.size; omega) (fun k hk => by first | exact (ownBlock_lt HR.out hk).1 | cases hk); (try clear HR); clear HB; have HB := hide hbn; have HR := hide hr; have d3 := HK.out.c3 _ hbn; (try have df := HCF.out _ hbn); (try have dl := HCL.out _ hbn); clear hbn hr hg)
    | (go_at_call 121; refine (HK.out.own _ HB.out).mono ?_; rintro e w6 ⟨rfl, sv', h6, hc6⟩; have d6 : w6.cell? ⟨g, 3, none⟩ = some sv' := (by rw [Joins.cell_of_block h6.blk]; rfl); have H6 := hide h6; have HC6 := hide hc6; clear h6 hc6)
    | (go_at_call 122; refine (HREP.out _ _ _ _ HB.out (by first | exact HR.out | exact World.ownsRow_nil _ _ _ _) (by first | exact (fun _ => rfl) | exact (fun e => by cases e)) H6.out HC6.out).mono ?_; rintro e w7 ⟨v7, rfl, hch⟩; obtain ⟨a7, m7, c7, rfl⟩ := slice_of_row hch.row; have q2 : w7.cell? ⟨g, 2, none⟩ = some (.int .i64 (tot ps : Int)) := (by obtain ⟨u, hu⟩ := hch.blk; rw [Joins.cell_of_block hu]; rfl); have r2 : w7.frozen? ⟨g, 2, none⟩ = false := (by obtain ⟨u, hu⟩ := hch.blk; simp [World.frozen?, hu]); obtain ⟨q3v, q3⟩ : ∃ u, w7.cell? ⟨g, 3, none⟩ = some u := (by obtain ⟨u, hu⟩ := hch.blk; exact ⟨u, by rw [Joins.cell_of_block hu]; rfl⟩); have r3 : w7.frozen? ⟨g, 3, none⟩ = false := (by obtain ⟨u, hu⟩ := hch.blk; simp [World.frozen?, hu]); have HCH := hide hch; clear hch HREP))
  go_end0
  exact ⟨rfl, _, HF.out _ _ HCH.out⟩

set_option maxRecDepth 20000 in
set_option maxHeartbeats 2000000 in
theorem change_kaoz {W : World} {B g : Nat} {sv : Value} {lent : Bool} {ps : List ByteArray} {s : ByteArray} {n k f a l z : Nat} {kb cap : Nat} (hk : Know W B g sv lent ps s n k f a l z) (hsv : sv = .slice (some ⟨kb, 0, none⟩) ps.length cap) (hcf : ∀ w, Below W.heap.size W w → w.cell? ⟨kb, f, none⟩ = some (.string (at' ps f))) (hf : f < ps.length) (ha : a < (at' ps f).size) (hcl : ∀ w, Below W.heap.size W w → w.cell? ⟨kb, l, none⟩ = some (.string (at' ps l))) (hl : l < ps.length) (hz : z < (at' ps l).size) (ha0 : 0 < a) (hz0' : 0 < z) (hk0 : 0 < k) (hs0 : s.size = 0) (hnk : n + k ≤ 16777216) (hss : s.size ≤ 16777216) (htt : tot ps ≤ 16777216) (hll : l ≤ 16777216) (hsm1 : (at' ps f).size ≤ 16777216) (hsm2 : (at' ps l).size ≤ 16777216) :
    Calls Try.prog 86 #[.pointer (some ⟨g, 0, none⟩), .int .i64 (n : Int), .int .i64 (k : Int), .string s] W fun e W' => e = .returned (.tuple #[]) ∧ ∃ sv', BufIs W' B g sv' false (chg ps s f a l z) ∧ Chg g sv sv' lent W W' := by
  obtain ⟨i0, hi, hz0, hz1, hz2⟩ := info_parts (show (Try.prog.info? 9).map (fun i => (i.zero, i.size, i.bytes)) = some (some (.string ⟨#[]⟩), 1, 16) by kernel_rfl)
  have HBY : head' ps f a ++ mid' s ++ tail' ps l z = [(at' ps f).extract 0 a, (at' ps l).extract z (at' ps l).size] := by
    simp [head', mid', tail', ha0, hz0', hs0]
  have hrep : ∀ w4 w5 sv' bv, Below W.heap.size W w4 → w4.ownsRow W.heap.size 9 1 bv 2 [.string ((at' ps f).extract 0 a), .string ((at' ps l).extract z (at' ps l).size)] → (([(at' ps f).extract 0 a, (at' ps l).extract z (at' ps l).size] : List ByteArray) = [] → bv = .slice none 0 0) → BufIs w5 B g sv' false ps → Chg g sv sv' lent w4 w5 →
      Calls Try.prog 122 #[sv', .int .i64 (f : Int), .int .i64 ((l : Int) + 1), bv] w5 fun e w6 => ∃ v', e = .returned v' ∧ Changed W w6 B g sv v' lent ps (chg ps s f a l z) := by
    have h := hk.rep
    rw [HBY, show ((past l z : Nat) : Int) = (l : Int) + 1 by simp [past, hz0']] at h
    exact h
  have HF := hide hk.fin
  have HK := hide hk
  have w1 : IntKind.i64.wrap ((n : Int) + (k : Int)) = (n : Int) + (k : Int) := by rw [IntKind.wrap_i64]; omega
  have w2 : IntKind.i64.wrap ((l : Int) + 1) = (l : Int) + 1 := by rw [IntKind.wrap_i64]; omega
  have w3 : IntKind.i64.wrap ((s.size : Int) - (k : Int)) = (s.size : Int) - (k : Int) := by rw [IntKind.wrap_i64]; omega
  have w4 : IntKind.i64.wrap ((tot ps : Int) + ((s.size : Int) - (k : Int))) = (tot ps : Int) + ((s.size : Int) - (k : Int)) := by rw [IntKind.wrap_i64]; omega
  have k1 : ¬ (k : Int) = 0 := by omega
  have k2 : (0 : Int) < (k : Int) := by omega
  have z2 : (0 : Int) < (z : Int) := by omega
  have a2 : (0 : Int) < (a : Int) := by omega
  have s1 : s.toList.isEmpty = true := toList_none hs0
  have HREP := hide hrep
  generalize at' ps f = pf at *
  generalize at' ps l = pl at *
  have HCF := hide hcf
  have HCL := hide hcl
  clear hk HBY hrep hs0 hcf hcl
  subst hsv
  go_enter Try.func86, Try.ntmps86
  go_wp2_with (first
    | (go_at_call 91; refine (HK.out.f2 _ HB.out).mono ?_; clear HB; rintro e w2 ⟨rfl, hb⟩; have HB := hide hb; have d3 := HK.out.c3 _ hb; (try have df := HCF.out _ hb); (try have dl := HCL.out _ hb); clear hb)
    | (go_at_call 91; refine HK.out.f1.mono ?_; rintro e w1 ⟨rfl, hb⟩; have HB := hide hb; have d3 := HK.out.c3 _ hb; (try have df := HCF.out _ hb); (try have dl := HCL.out _ hb); clear hb)
    | (at_builtin; refine wpList_append_own _ rfl (.tmp 39) (.tmp 49) 29 rfl W.heap.size 9 i0 (.string ⟨#[]⟩) 1 16 Try.underlying29 hi hz0 hz1 hz2 rfl (by decide) _ _ _ rfl (by first | exact HR.out.alloc _ | exact World.ownsRow_nil _ _ _ _) ⟨_, 0, none⟩ 1 1 [.string (pf.extract 0 a)] rfl rfl (cell_one_new _ _ _) (by simp [Value.oneCell']) (by unfold maxLen; omega) (by omega) (by have := HB.out.size; simp; omega) ?_; intro v1 w3 hr hg hx; clear hx; simp only [Nat.zero_add, List.nil_append, Nat.reduceAdd, List.cons_append] at hr; have hbn := (HB.out.alloc (by have := HB.out.size; omega) _).grown hg (by simp; have := HB.out.size; omega) (fun k hk => by first | exact (ownBlock_lt HR.out hk).1 | cases hk); (try clear HR); clear HB; have HB := hide hbn; have HR := hide hr; have d3 := HK.out.c3 _ hbn; (try have df := HCF.out _ hbn); (try have dl := HCL.out _ hbn); clear hbn hr hg)
    | (at_builtin; refine wpList_append_own _ rfl (.tmp 53) (.tmp 55) 29 rfl W.heap.size 9 i0 (.string ⟨#[]⟩) 1 16 Try.underlying29 hi hz0 hz1 hz2 rfl (by decide) _ _ _ rfl (by first | exact HR.out.alloc _ | exact World.ownsRow_nil _ _ _ _) ⟨_, 0, none⟩ 1 1 [.string s] rfl rfl (cell_one_new _ _ _) (by simp [Value.oneCell']) (by unfold maxLen; omega) (by omega) (by have := HB.out.size; simp; omega) ?_; intro v2 w4 hr hg hx; clear hx; simp only [Nat.zero_add, List.nil_append, Nat.reduceAdd, List.cons_append] at hr; have hbn := (HB.out.alloc (by have := HB.out.size; omega) _).grown hg (by simp; have := HB.out.size; omega) (fun k hk => by first | exact (ownBlock_lt HR.out hk).1 | cases hk); (try clear HR); clear HB; have HB := hide hbn; have HR := hide hr; have d3 := HK.out.c3 _ hbn; (try have df := HCF.out _ hbn); (try have dl := HCL.out _ hbn); clear hbn hr hg)
    | (at_builtin; refine wpList_append_own _ rfl (.tmp 59) (.tmp 69) 29 rfl W.heap.size 9 i0 (.string ⟨#[]⟩) 1 16 Try.underlying29 hi hz0 hz1 hz2 rfl (by decide) _ _ _ rfl (by first | exact HR.out.alloc _ | exact World.ownsRow_nil _ _ _ _) ⟨_, 0, none⟩ 1 1 [.string (pl.extract z pl.size)] rfl rfl (cell_one_new _ _ _) (by simp [Value.oneCell']) (by unfold maxLen; omega) (by omega) (by have := HB.out.size; simp; omega) ?_; intro v3 w5 hr hg hx; clear hx; simp only [Nat.zero_add, List.nil_append, Nat.reduceAdd, List.cons_append] at hr; have hbn := (HB.out.alloc (by have := HB.out.size; omega) _).grown hg (by simp; have := HB.out.size; omega) (fun k hk => by first | exact (ownBlock_lt HR.out hk).1 | cases hk); (try clear HR); clear HB; have HB := hide hbn; have HR := hide hr; have d3 := HK.out.c3 _ hbn; (try have df := HCF.out _ hbn); (try have dl := HCL.out _ hbn); clear hbn hr hg)
    | (go_at_call 121; refine (HK.out.own _ HB.out).mono ?_; rintro e w6 ⟨rfl, sv', h6, hc6⟩; have d6 : w6.cell? ⟨g, 3, none⟩ = some sv' := (by rw [Joins.cell_of_block h6.blk]; rfl); have H6 := hide h6; have HC6 := hide hc6; clear h6 hc6)
    | (go_at_call 122; refine (HREP.out _ _ _ _ HB.out (by first | exact HR.out | exact World.ownsRow_nil _ _ _ _) (by first | exact (fun _ => rfl) | exact (fun e => by cases e)) H6.out HC6.out).mono ?_; rintro e w7 ⟨v7, rfl, hch⟩; obtain ⟨a7, m7, c7, rfl⟩ := slice_of_row hch.row; have q2 : w7.cell? ⟨g, 2, none⟩ = some (.int .i64 (tot ps : Int)) := (by obtain ⟨u, hu⟩ := hch.blk; rw [Joins.cell_of_block hu]; rfl); have r2 : w7.frozen? ⟨g, 2, none⟩ = false := (by obtain ⟨u, hu⟩ := hch.blk; simp [World.frozen?, hu]); obtain ⟨q3v, q3⟩ : ∃ u, w7.cell? ⟨g, 3, none⟩ = some u := (by obtain ⟨u, hu⟩ := hch.blk; exact ⟨u, by rw [Joins.cell_of_block hu]; rfl⟩); have r3 : w7.frozen? ⟨g, 3, none⟩ = false := (by obtain ⟨u, hu⟩ := hch.blk; simp [World.frozen?, hu]); have HCH := hide hch; clear hch HREP))
  go_end0
  exact ⟨rfl, _, HF.out _ _ HCH.out⟩

set_option maxRecDepth 20000 in
set_option maxHeartbeats 2000000 in
theorem change_kaoo {W : World} {B g : Nat} {sv : Value} {lent : Bool} {ps : List ByteArray} {s : ByteArray} {n k f a l z : Nat} {kb cap : Nat} (hk : Know W B g sv lent ps s n k f a l z) (hsv : sv = .slice (some ⟨kb, 0, none⟩) ps.length cap) (hcf : ∀ w, Below W.heap.size W w → w.cell? ⟨kb, f, none⟩ = some (.string (at' ps f))) (hf : f < ps.length) (ha : a < (at' ps f).size) (ha0 : 0 < a) (hz0' : ¬ 0 < z) (hk0 : 0 < k) (hs0 : s.size = 0) (hnk : n + k ≤ 16777216) (hss : s.size ≤ 16777216) (htt : tot ps ≤ 16777216) (hll : l ≤ 16777216) (hsm1 : (at' ps f).size ≤ 16777216) :
    Calls Try.prog 86 #[.pointer (some ⟨g, 0, none⟩), .int .i64 (n : Int), .int .i64 (k : Int), .string s] W fun e W' => e = .returned (.tuple #[]) ∧ ∃ sv', BufIs W' B g sv' false (chg ps s f a l z) ∧ Chg g sv sv' lent W W' := by
  obtain ⟨i0, hi, hz0, hz1, hz2⟩ := info_parts (show (Try.prog.info? 9).map (fun i => (i.zero, i.size, i.bytes)) = some (some (.string ⟨#[]⟩), 1, 16) by kernel_rfl)
  have HBY : head' ps f a ++ mid' s ++ tail' ps l z = [(at' ps f).extract 0 a] := by
    simp [head', mid', tail', ha0, hz0', hs0]
  have hrep : ∀ w4 w5 sv' bv, Below W.heap.size W w4 → w4.ownsRow W.heap.size 9 1 bv 1 [.string ((at' ps f).extract 0 a)] → (([(at' ps f).extract 0 a] : List ByteArray) = [] → bv = .slice none 0 0) → BufIs w5 B g sv' false ps → Chg g sv sv' lent w4 w5 →
      Calls Try.prog 122 #[sv', .int .i64 (f : Int), .int .i64 (l : Int), bv] w5 fun e w6 => ∃ v', e = .returned v' ∧ Changed W w6 B g sv v' lent ps (chg ps s f a l z) := by
    have h := hk.rep
    rw [HBY, show ((past l z : Nat) : Int) = (l : Int) by simp [past, hz0']] at h
    exact h
  have HF := hide hk.fin
  have HK := hide hk
  have w1 : IntKind.i64.wrap ((n : Int) + (k : Int)) = (n : Int) + (k : Int) := by rw [IntKind.wrap_i64]; omega
  have w2 : IntKind.i64.wrap ((l : Int) + 1) = (l : Int) + 1 := by rw [IntKind.wrap_i64]; omega
  have w3 : IntKind.i64.wrap ((s.size : Int) - (k : Int)) = (s.size : Int) - (k : Int) := by rw [IntKind.wrap_i64]; omega
  have w4 : IntKind.i64.wrap ((tot ps : Int) + ((s.size : Int) - (k : Int))) = (tot ps : Int) + ((s.size : Int) - (k : Int)) := by rw [IntKind.wrap_i64]; omega
  have k1 : ¬ (k : Int) = 0 := by omega
  have k2 : (0 : Int) < (k : Int) := by omega
  have z2 : ¬ (0 : Int) < (z : Int) := by omega
  have a2 : (0 : Int) < (a : Int) := by omega
  have s1 : s.toList.isEmpty = true := toList_none hs0
  have HREP := hide hrep
  generalize at' ps f = pf at *
  have HCF := hide hcf
  clear hk HBY hrep hs0 hcf
  subst hsv
  go_enter Try.func86, Try.ntmps86
  go_wp2_with (first
    | (go_at_call 91; refine (HK.out.f2 _ HB.out).mono ?_; clear HB; rintro e w2 ⟨rfl, hb⟩; have HB := hide hb; have d3 := HK.out.c3 _ hb; (try have df := HCF.out _ hb); (try have dl := HCL.out _ hb); clear hb)
    | (go_at_call 91; refine HK.out.f1.mono ?_; rintro e w1 ⟨rfl, hb⟩; have HB := hide hb; have d3 := HK.out.c3 _ hb; (try have df := HCF.out _ hb); (try have dl := HCL.out _ hb); clear hb)
    | (at_builtin; refine wpList_append_own _ rfl (.tmp 39) (.tmp 49) 29 rfl W.heap.size 9 i0 (.string ⟨#[]⟩) 1 16 Try.underlying29 hi hz0 hz1 hz2 rfl (by decide) _ _ _ rfl (by first | exact HR.out.alloc _ | exact World.ownsRow_nil _ _ _ _) ⟨_, 0, none⟩ 1 1 [.string (pf.extract 0 a)] rfl rfl (cell_one_new _ _ _) (by simp [Value.oneCell']) (by unfold maxLen; omega) (by omega) (by have := HB.out.size; simp; omega) ?_; intro v1 w3 hr hg hx; clear hx; simp only [Nat.zero_add, List.nil_append, Nat.reduceAdd, List.cons_append] at hr; have hbn := (HB.out.alloc (by have := HB.out.size; omega) _).grown hg (by simp; have := HB.out.size; omega) (fun k hk => by first | exact (ownBlock_lt HR.out hk).1 | cases hk); (try clear HR); clear HB; have HB := hide hbn; have HR := hide hr; have d3 := HK.out.c3 _ hbn; (try have df := HCF.out _ hbn); (try have dl := HCL.out _ hbn); clear hbn hr hg)
    | (at_builtin; refine wpList_append_own _ rfl (.tmp 53) (.tmp 55) 29 rfl W.heap.size 9 i0 (.string ⟨#[]⟩) 1 16 Try.underlying29 hi hz0 hz1 hz2 rfl (by decide) _ _ _ rfl (by first | exact HR.out.alloc _ | exact World.ownsRow_nil _ _ _ _) ⟨_, 0, none⟩ 1 1 [.string s] rfl rfl (cell_one_new _ _ _) (by simp [Value.oneCell']) (by unfold maxLen; omega) (by omega) (by have := HB.out.size; simp; omega) ?_; intro v2 w4 hr hg hx; clear hx; simp only [Nat.zero_add, List.nil_append, Nat.reduceAdd, List.cons_append] at hr; have hbn := (HB.out.alloc (by have := HB.out.size; omega) _).grown hg (by simp; have := HB.out.size; omega) (fun k hk => by first | exact (ownBlock_lt HR.out hk).1 | cases hk); (try clear HR); clear HB; have HB := hide hbn; have HR := hide hr; have d3 := HK.out.c3 _ hbn; (try have df := HCF.out _ hbn); (try have dl := HCL.out _ hbn); clear hbn hr hg)
    | (at_builtin; refine wpList_append_own _ rfl (.tmp 59) (.tmp 69) 29 rfl W.heap.size 9 i0 (.string ⟨#[]⟩) 1 16 Try.underlying29 hi hz0 hz1 hz2 rfl (by decide) _ _ _ rfl (by first | exact HR.out.alloc _ | exact World.ownsRow_nil _ _ _ _) ⟨_, 0, none⟩ 1 1 [.string s] rfl rfl (cell_one_new _ _ _) (by simp [Value.oneCell']) (by unfold maxLen; omega) (by omega) (by have := HB.out.size; simp; omega) ?_; intro v3 w5 hr hg hx; clear hx; simp only [Nat.zero_add, List.nil_append, Nat.reduceAdd, List.cons_append] at hr; have hbn := (HB.out.alloc (by have := HB.out.size; omega) _).grown hg (by simp; have := HB.out.size; omega) (fun k hk => by first | exact (ownBlock_lt HR.out hk).1 | cases hk); (try clear HR); clear HB; have HB := hide hbn; have HR := hide hr; have d3 := HK.out.c3 _ hbn; (try have df := HCF.out _ hbn); (try have dl := HCL.out _ hbn); clear hbn hr hg)
    | (go_at_call 121; refine (HK.out.own _ HB.out).mono ?_; rintro e w6 ⟨rfl, sv', h6, hc6⟩; have d6 : w6.cell? ⟨g, 3, none⟩ = some sv' := (by rw [Joins.cell_of_block h6.blk]; rfl); have H6 := hide h6; have HC6 := hide hc6; clear h6 hc6)
    | (go_at_call 122; refine (HREP.out _ _ _ _ HB.out (by first | exact HR.out | exact World.ownsRow_nil _ _ _ _) (by first | exact (fun _ => rfl) | exact (fun e => by cases e)) H6.out HC6.out).mono ?_; rintro e w7 ⟨v7, rfl, hch⟩; obtain ⟨a7, m7, c7, rfl⟩ := slice_of_row hch.row; have q2 : w7.cell? ⟨g, 2, none⟩ = some (.int .i64 (tot ps : Int)) := (by obtain ⟨u, hu⟩ := hch.blk; rw [Joins.cell_of_block hu]; rfl); have r2 : w7.frozen? ⟨g, 2, none⟩ = false := (by obtain ⟨u, hu⟩ := hch.blk; simp [World.frozen?, hu]); obtain ⟨q3v, q3⟩ : ∃ u, w7.cell? ⟨g, 3, none⟩ = some u := (by obtain ⟨u, hu⟩ := hch.blk; exact ⟨u, by rw [Joins.cell_of_block hu]; rfl⟩); have r3 : w7.frozen? ⟨g, 3, none⟩ = false := (by obtain ⟨u, hu⟩ := hch.blk; simp [World.frozen?, hu]); have HCH := hide hch; clear hch HREP))
  go_end0
  exact ⟨rfl, _, HF.out _ _ HCH.out⟩

set_option maxRecDepth 20000 in
set_option maxHeartbeats 2000000 in
theorem change_kosz {W : World} {B g : Nat} {sv : Value} {lent : Bool} {ps : List ByteArray} {s : ByteArray} {n k f a l z : Nat} {kb cap : Nat} (hk : Know W B g sv lent ps s n k f a l z) (hsv : sv = .slice (some ⟨kb, 0, none⟩) ps.length cap) (hcl : ∀ w, Below W.heap.size W w → w.cell? ⟨kb, l, none⟩ = some (.string (at' ps l))) (hl : l < ps.length) (hz : z < (at' ps l).size) (ha0 : ¬ 0 < a) (hz0' : 0 < z) (hk0 : 0 < k) (hs0 : s.size ≠ 0) (hnk : n + k ≤ 16777216) (hss : s.size ≤ 16777216) (htt : tot ps ≤ 16777216) (hll : l ≤ 16777216) (hsm2 : (at' ps l).size ≤ 16777216) :
    Calls Try.prog 86 #[.pointer (some ⟨g, 0, none⟩), .int .i64 (n : Int), .int .i64 (k : Int), .string s] W fun e W' => e = .returned (.tuple #[]) ∧ ∃ sv', BufIs W' B g sv' false (chg ps s f a l z) ∧ Chg g sv sv' lent W W' := by
  obtain ⟨i0, hi, hz0, hz1, hz2⟩ := info_parts (show (Try.prog.info? 9).map (fun i => (i.zero, i.size, i.bytes)) = some (some (.string ⟨#[]⟩), 1, 16) by kernel_rfl)
  have HBY : head' ps f a ++ mid' s ++ tail' ps l z = [s, (at' ps l).extract z (at' ps l).size] := by
    simp [head', mid', tail', ha0, hz0', hs0]
  have hrep : ∀ w4 w5 sv' bv, Below W.heap.size W w4 → w4.ownsRow W.heap.size 9 1 bv 2 [.string (s), .string ((at' ps l).extract z (at' ps l).size)] → (([s, (at' ps l).extract z (at' ps l).size] : List ByteArray) = [] → bv = .slice none 0 0) → BufIs w5 B g sv' false ps → Chg g sv sv' lent w4 w5 →
      Calls Try.prog 122 #[sv', .int .i64 (f : Int), .int .i64 ((l : Int) + 1), bv] w5 fun e w6 => ∃ v', e = .returned v' ∧ Changed W w6 B g sv v' lent ps (chg ps s f a l z) := by
    have h := hk.rep
    rw [HBY, show ((past l z : Nat) : Int) = (l : Int) + 1 by simp [past, hz0']] at h
    exact h
  have HF := hide hk.fin
  have HK := hide hk
  have w1 : IntKind.i64.wrap ((n : Int) + (k : Int)) = (n : Int) + (k : Int) := by rw [IntKind.wrap_i64]; omega
  have w2 : IntKind.i64.wrap ((l : Int) + 1) = (l : Int) + 1 := by rw [IntKind.wrap_i64]; omega
  have w3 : IntKind.i64.wrap ((s.size : Int) - (k : Int)) = (s.size : Int) - (k : Int) := by rw [IntKind.wrap_i64]; omega
  have w4 : IntKind.i64.wrap ((tot ps : Int) + ((s.size : Int) - (k : Int))) = (tot ps : Int) + ((s.size : Int) - (k : Int)) := by rw [IntKind.wrap_i64]; omega
  have k1 : ¬ (k : Int) = 0 := by omega
  have k2 : (0 : Int) < (k : Int) := by omega
  have z2 : (0 : Int) < (z : Int) := by omega
  have a2 : ¬ (0 : Int) < (a : Int) := by omega
  have s1 : s.toList.isEmpty = false := toList_some hs0
  have HREP := hide hrep
  generalize at' ps l = pl at *
  have HCL := hide hcl
  clear hk HBY hrep hs0 hcl
  subst hsv
  go_enter Try.func86, Try.ntmps86
  go_wp2_with (first
    | (go_at_call 91; refine (HK.out.f2 _ HB.out).mono ?_; clear HB; rintro e w2 ⟨rfl, hb⟩; have HB := hide hb; have d3 := HK.out.c3 _ hb; (try have df := HCF.out _ hb); (try have dl := HCL.out _ hb); clear hb)
    | (go_at_call 91; refine HK.out.f1.mono ?_; rintro e w1 ⟨rfl, hb⟩; have HB := hide hb; have d3 := HK.out.c3 _ hb; (try have df := HCF.out _ hb); (try have dl := HCL.out _ hb); clear hb)
    | (at_builtin; refine wpList_append_own _ rfl (.tmp 39) (.tmp 49) 29 rfl W.heap.size 9 i0 (.string ⟨#[]⟩) 1 16 Try.underlying29 hi hz0 hz1 hz2 rfl (by decide) _ _ _ rfl (by first | exact HR.out.alloc _ | exact World.ownsRow_nil _ _ _ _) ⟨_, 0, none⟩ 1 1 [.string s] rfl rfl (cell_one_new _ _ _) (by simp [Value.oneCell']) (by unfold maxLen; omega) (by omega) (by have := HB.out.size; simp; omega) ?_; intro v1 w3 hr hg hx; clear hx; simp only [Nat.zero_add, List.nil_append, Nat.reduceAdd, List.cons_append] at hr; have hbn := (HB.out.alloc (by have := HB.out.size; omega) _).grown hg (by simp; have := HB.out.size; omega) (fun k hk => by first | exact (ownBlock_lt HR.out hk).1 | cases hk); (try clear HR); clear HB; have HB := hide hbn; have HR := hide hr; have d3 := HK.out.c3 _ hbn; (try have df := HCF.out _ hbn); (try have dl := HCL.out _ hbn); clear hbn hr hg)
    | (at_builtin; refine wpList_append_own _ rfl (.tmp 53) (.tmp 55) 29 rfl W.heap.size 9 i0 (.string ⟨#[]⟩) 1 16 Try.underlying29 hi hz0 hz1 hz2 rfl (by decide) _ _ _ rfl (by first | exact HR.out.alloc _ | exact World.ownsRow_nil _ _ _ _) ⟨_, 0, none⟩ 1 1 [.string s] rfl rfl (cell_one_new _ _ _) (by simp [Value.oneCell']) (by unfold maxLen; omega) (by omega) (by have := HB.out.size; simp; omega) ?_; intro v2 w4 hr hg hx; clear hx; simp only [Nat.zero_add, List.nil_append, Nat.reduceAdd, List.cons_append] at hr; have hbn := (HB.out.alloc (by have := HB.out.size; omega) _).grown hg (by simp; have := HB.out.size; omega) (fun k hk => by first | exact (ownBlock_lt HR.out hk).1 | cases hk); (try clear HR); clear HB; have HB := hide hbn; have HR := hide hr; have d3 := HK.out.c3 _ hbn; (try have df := HCF.out _ hbn); (try have dl := HCL.out _ hbn); clear hbn hr hg)
    | (at_builtin; refine wpList_append_own _ rfl (.tmp 59) (.tmp 69) 29 rfl W.heap.size 9 i0 (.string ⟨#[]⟩) 1 16 Try.underlying29 hi hz0 hz1 hz2 rfl (by decide) _ _ _ rfl (by first | exact HR.out.alloc _ | exact World.ownsRow_nil _ _ _ _) ⟨_, 0, none⟩ 1 1 [.string (pl.extract z pl.size)] rfl rfl (cell_one_new _ _ _) (by simp [Value.oneCell']) (by unfold maxLen; omega) (by omega) (by have := HB.out.size; simp; omega) ?_; intro v3 w5 hr hg hx; clear hx; simp only [Nat.zero_add, List.nil_append, Nat.reduceAdd, List.cons_append] at hr; have hbn := (HB.out.alloc (by have := HB.out.size; omega) _).grown hg (by simp; have := HB.out.size; omega) (fun k hk => by first | exact (ownBlock_lt HR.out hk).1 | cases hk); (try clear HR); clear HB; have HB := hide hbn; have HR := hide hr; have d3 := HK.out.c3 _ hbn; (try have df := HCF.out _ hbn); (try have dl := HCL.out _ hbn); clear hbn hr hg)
    | (go_at_call 121; refine (HK.out.own _ HB.out).mono ?_; rintro e w6 ⟨rfl, sv', h6, hc6⟩; have d6 : w6.cell? ⟨g, 3, none⟩ = some sv' := (by rw [Joins.cell_of_block h6.blk]; rfl); have H6 := hide h6; have HC6 := hide hc6; clear h6 hc6)
    | (go_at_call 122; refine (HREP.out _ _ _ _ HB.out (by first | exact HR.out | exact World.ownsRow_nil _ _ _ _) (by first | exact (fun _ => rfl) | exact (fun e => by cases e)) H6.out HC6.out).mono ?_; rintro e w7 ⟨v7, rfl, hch⟩; obtain ⟨a7, m7, c7, rfl⟩ := slice_of_row hch.row; have q2 : w7.cell? ⟨g, 2, none⟩ = some (.int .i64 (tot ps : Int)) := (by obtain ⟨u, hu⟩ := hch.blk; rw [Joins.cell_of_block hu]; rfl); have r2 : w7.frozen? ⟨g, 2, none⟩ = false := (by obtain ⟨u, hu⟩ := hch.blk; simp [World.frozen?, hu]); obtain ⟨q3v, q3⟩ : ∃ u, w7.cell? ⟨g, 3, none⟩ = some u := (by obtain ⟨u, hu⟩ := hch.blk; exact ⟨u, by rw [Joins.cell_of_block hu]; rfl⟩); have r3 : w7.frozen? ⟨g, 3, none⟩ = false := (by obtain ⟨u, hu⟩ := hch.blk; simp [World.frozen?, hu]); have HCH := hide hch; clear hch HREP))
  go_end0
  exact ⟨rfl, _, HF.out _ _ HCH.out⟩

set_option maxRecDepth 20000 in
set_option maxHeartbeats 2000000 in
theorem change_koso {W : World} {B g : Nat} {sv : Value} {lent : Bool} {ps : List ByteArray} {s : ByteArray} {n k f a l z : Nat} (hk : Know W B g sv lent ps s n k f a l z) (ha0 : ¬ 0 < a) (hz0' : ¬ 0 < z) (hk0 : 0 < k) (hs0 : s.size ≠ 0) (hnk : n + k ≤ 16777216) (hss : s.size ≤ 16777216) (htt : tot ps ≤ 16777216) (hll : l ≤ 16777216) :
    Calls Try.prog 86 #[.pointer (some ⟨g, 0, none⟩), .int .i64 (n : Int), .int .i64 (k : Int), .string s] W fun e W' => e = .returned (.tuple #[]) ∧ ∃ sv', BufIs W' B g sv' false (chg ps s f a l z) ∧ Chg g sv sv' lent W W' := by
  obtain ⟨i0, hi, hz0, hz1, hz2⟩ := info_parts (show (Try.prog.info? 9).map (fun i => (i.zero, i.size, i.bytes)) = some (some (.string ⟨#[]⟩), 1, 16) by kernel_rfl)
  have HBY : head' ps f a ++ mid' s ++ tail' ps l z = [s] := by
    simp [head', mid', tail', ha0, hz0', hs0]
  have hrep : ∀ w4 w5 sv' bv, Below W.heap.size W w4 → w4.ownsRow W.heap.size 9 1 bv 1 [.string (s)] → (([s] : List ByteArray) = [] → bv = .slice none 0 0) → BufIs w5 B g sv' false ps → Chg g sv sv' lent w4 w5 →
      Calls Try.prog 122 #[sv', .int .i64 (f : Int), .int .i64 (l : Int), bv] w5 fun e w6 => ∃ v', e = .returned v' ∧ Changed W w6 B g sv v' lent ps (chg ps s f a l z) := by
    have h := hk.rep
    rw [HBY, show ((past l z : Nat) : Int) = (l : Int) by simp [past, hz0']] at h
    exact h
  have HF := hide hk.fin
  have HK := hide hk
  have w1 : IntKind.i64.wrap ((n : Int) + (k : Int)) = (n : Int) + (k : Int) := by rw [IntKind.wrap_i64]; omega
  have w2 : IntKind.i64.wrap ((l : Int) + 1) = (l : Int) + 1 := by rw [IntKind.wrap_i64]; omega
  have w3 : IntKind.i64.wrap ((s.size : Int) - (k : Int)) = (s.size : Int) - (k : Int) := by rw [IntKind.wrap_i64]; omega
  have w4 : IntKind.i64.wrap ((tot ps : Int) + ((s.size : Int) - (k : Int))) = (tot ps : Int) + ((s.size : Int) - (k : Int)) := by rw [IntKind.wrap_i64]; omega
  have k1 : ¬ (k : Int) = 0 := by omega
  have k2 : (0 : Int) < (k : Int) := by omega
  have z2 : ¬ (0 : Int) < (z : Int) := by omega
  have a2 : ¬ (0 : Int) < (a : Int) := by omega
  have s1 : s.toList.isEmpty = false := toList_some hs0
  have HREP := hide hrep
  clear hk HBY hrep hs0
  go_enter Try.func86, Try.ntmps86
  go_wp2_with (first
    | (go_at_call 91; refine (HK.out.f2 _ HB.out).mono ?_; clear HB; rintro e w2 ⟨rfl, hb⟩; have HB := hide hb; have d3 := HK.out.c3 _ hb; (try have df := HCF.out _ hb); (try have dl := HCL.out _ hb); clear hb)
    | (go_at_call 91; refine HK.out.f1.mono ?_; rintro e w1 ⟨rfl, hb⟩; have HB := hide hb; have d3 := HK.out.c3 _ hb; (try have df := HCF.out _ hb); (try have dl := HCL.out _ hb); clear hb)
    | (at_builtin; refine wpList_append_own _ rfl (.tmp 39) (.tmp 49) 29 rfl W.heap.size 9 i0 (.string ⟨#[]⟩) 1 16 Try.underlying29 hi hz0 hz1 hz2 rfl (by decide) _ _ _ rfl (by first | exact HR.out.alloc _ | exact World.ownsRow_nil _ _ _ _) ⟨_, 0, none⟩ 1 1 [.string s] rfl rfl (cell_one_new _ _ _) (by simp [Value.oneCell']) (by unfold maxLen; omega) (by omega) (by have := HB.out.size; simp; omega) ?_; intro v1 w3 hr hg hx; clear hx; simp only [Nat.zero_add, List.nil_append, Nat.reduceAdd, List.cons_append] at hr; have hbn := (HB.out.alloc (by have := HB.out.size; omega) _).grown hg (by simp; have := HB.out.size; omega) (fun k hk => by first | exact (ownBlock_lt HR.out hk).1 | cases hk); (try clear HR); clear HB; have HB := hide hbn; have HR := hide hr; have d3 := HK.out.c3 _ hbn; (try have df := HCF.out _ hbn); (try have dl := HCL.out _ hbn); clear hbn hr hg)
    | (at_builtin; refine wpList_append_own _ rfl (.tmp 53) (.tmp 55) 29 rfl W.heap.size 9 i0 (.string ⟨#[]⟩) 1 16 Try.underlying29 hi hz0 hz1 hz2 rfl (by decide) _ _ _ rfl (by first | exact HR.out.alloc _ | exact World.ownsRow_nil _ _ _ _) ⟨_, 0, none⟩ 1 1 [.string s] rfl rfl (cell_one_new _ _ _) (by simp [Value.oneCell']) (by unfold maxLen; omega) (by omega) (by have := HB.out.size; simp; omega) ?_; intro v2 w4 hr hg hx; clear hx; simp only [Nat.zero_add, List.nil_append, Nat.reduceAdd, List.cons_append] at hr; have hbn := (HB.out.alloc (by have := HB.out.size; omega) _).grown hg (by simp; have := HB.out.size; omega) (fun k hk => by first | exact (ownBlock_lt HR.out hk).1 | cases hk); (try clear HR); clear HB; have HB := hide hbn; have HR := hide hr; have d3 := HK.out.c3 _ hbn; (try have df := HCF.out _ hbn); (try have dl := HCL.out _ hbn); clear hbn hr hg)
    | (at_builtin; refine wpList_append_own _ rfl (.tmp 59) (.tmp 69) 29 rfl W.heap.size 9 i0 (.string ⟨#[]⟩) 1 16 Try.underlying29 hi hz0 hz1 hz2 rfl (by decide) _ _ _ rfl (by first | exact HR.out.alloc _ | exact World.ownsRow_nil _ _ _ _) ⟨_, 0, none⟩ 1 1 [.string s] rfl rfl (cell_one_new _ _ _) (by simp [Value.oneCell']) (by unfold maxLen; omega) (by omega) (by have := HB.out.size; simp; omega) ?_; intro v3 w5 hr hg hx; clear hx; simp only [Nat.zero_add, List.nil_append, Nat.reduceAdd, List.cons_append] at hr; have hbn := (HB.out.alloc (by have := HB.out.size; omega) _).grown hg (by simp; have := HB.out.size; omega) (fun k hk => by first | exact (ownBlock_lt HR.out hk).1 | cases hk); (try clear HR); clear HB; have HB := hide hbn; have HR := hide hr; have d3 := HK.out.c3 _ hbn; (try have df := HCF.out _ hbn); (try have dl := HCL.out _ hbn); clear hbn hr hg)
    | (go_at_call 121; refine (HK.out.own _ HB.out).mono ?_; rintro e w6 ⟨rfl, sv', h6, hc6⟩; have d6 : w6.cell? ⟨g, 3, none⟩ = some sv' := (by rw [Joins.cell_of_block h6.blk]; rfl); have H6 := hide h6; have HC6 := hide hc6; clear h6 hc6)
    | (go_at_call 122; refine (HREP.out _ _ _ _ HB.out (by first | exact HR.out | exact World.ownsRow_nil _ _ _ _) (by first | exact (fun _ => rfl) | exact (fun e => by cases e)) H6.out HC6.out).mono ?_; rintro e w7 ⟨v7, rfl, hch⟩; obtain ⟨a7, m7, c7, rfl⟩ := slice_of_row hch.row; have q2 : w7.cell? ⟨g, 2, none⟩ = some (.int .i64 (tot ps : Int)) := (by obtain ⟨u, hu⟩ := hch.blk; rw [Joins.cell_of_block hu]; rfl); have r2 : w7.frozen? ⟨g, 2, none⟩ = false := (by obtain ⟨u, hu⟩ := hch.blk; simp [World.frozen?, hu]); obtain ⟨q3v, q3⟩ : ∃ u, w7.cell? ⟨g, 3, none⟩ = some u := (by obtain ⟨u, hu⟩ := hch.blk; exact ⟨u, by rw [Joins.cell_of_block hu]; rfl⟩); have r3 : w7.frozen? ⟨g, 3, none⟩ = false := (by obtain ⟨u, hu⟩ := hch.blk; simp [World.frozen?, hu]); have HCH := hide hch; clear hch HREP))
  go_end0
  exact ⟨rfl, _, HF.out _ _ HCH.out⟩

set_option maxRecDepth 20000 in
set_option maxHeartbeats 2000000 in
theorem change_kooz {W : World} {B g : Nat} {sv : Value} {lent : Bool} {ps : List ByteArray} {s : ByteArray} {n k f a l z : Nat} {kb cap : Nat} (hk : Know W B g sv lent ps s n k f a l z) (hsv : sv = .slice (some ⟨kb, 0, none⟩) ps.length cap) (hcl : ∀ w, Below W.heap.size W w → w.cell? ⟨kb, l, none⟩ = some (.string (at' ps l))) (hl : l < ps.length) (hz : z < (at' ps l).size) (ha0 : ¬ 0 < a) (hz0' : 0 < z) (hk0 : 0 < k) (hs0 : s.size = 0) (hnk : n + k ≤ 16777216) (hss : s.size ≤ 16777216) (htt : tot ps ≤ 16777216) (hll : l ≤ 16777216) (hsm2 : (at' ps l).size ≤ 16777216) :
    Calls Try.prog 86 #[.pointer (some ⟨g, 0, none⟩), .int .i64 (n : Int), .int .i64 (k : Int), .string s] W fun e W' => e = .returned (.tuple #[]) ∧ ∃ sv', BufIs W' B g sv' false (chg ps s f a l z) ∧ Chg g sv sv' lent W W' := by
  obtain ⟨i0, hi, hz0, hz1, hz2⟩ := info_parts (show (Try.prog.info? 9).map (fun i => (i.zero, i.size, i.bytes)) = some (some (.string ⟨#[]⟩), 1, 16) by kernel_rfl)
  have HBY : head' ps f a ++ mid' s ++ tail' ps l z = [(at' ps l).extract z (at' ps l).size] := by
    simp [head', mid', tail', ha0, hz0', hs0]
  have hrep : ∀ w4 w5 sv' bv, Below W.heap.size W w4 → w4.ownsRow W.heap.size 9 1 bv 1 [.string ((at' ps l).extract z (at' ps l).size)] → (([(at' ps l).extract z (at' ps l).size] : List ByteArray) = [] → bv = .slice none 0 0) → BufIs w5 B g sv' false ps → Chg g sv sv' lent w4 w5 →
      Calls Try.prog 122 #[sv', .int .i64 (f : Int), .int .i64 ((l : Int) + 1), bv] w5 fun e w6 => ∃ v', e = .returned v' ∧ Changed W w6 B g sv v' lent ps (chg ps s f a l z) := by
    have h := hk.rep
    rw [HBY, show ((past l z : Nat) : Int) = (l : Int) + 1 by simp [past, hz0']] at h
    exact h
  have HF := hide hk.fin
  have HK := hide hk
  have w1 : IntKind.i64.wrap ((n : Int) + (k : Int)) = (n : Int) + (k : Int) := by rw [IntKind.wrap_i64]; omega
  have w2 : IntKind.i64.wrap ((l : Int) + 1) = (l : Int) + 1 := by rw [IntKind.wrap_i64]; omega
  have w3 : IntKind.i64.wrap ((s.size : Int) - (k : Int)) = (s.size : Int) - (k : Int) := by rw [IntKind.wrap_i64]; omega
  have w4 : IntKind.i64.wrap ((tot ps : Int) + ((s.size : Int) - (k : Int))) = (tot ps : Int) + ((s.size : Int) - (k : Int)) := by rw [IntKind.wrap_i64]; omega
  have k1 : ¬ (k : Int) = 0 := by omega
  have k2 : (0 : Int) < (k : Int) := by omega
  have z2 : (0 : Int) < (z : Int) := by omega
  have a2 : ¬ (0 : Int) < (a : Int) := by omega
  have s1 : s.toList.isEmpty = true := toList_none hs0
  have HREP := hide hrep
  generalize at' ps l = pl at *
  have HCL := hide hcl
  clear hk HBY hrep hs0 hcl
  subst hsv
  go_enter Try.func86, Try.ntmps86
  go_wp2_with (first
    | (go_at_call 91; refine (HK.out.f2 _ HB.out).mono ?_; clear HB; rintro e w2 ⟨rfl, hb⟩; have HB := hide hb; have d3 := HK.out.c3 _ hb; (try have df := HCF.out _ hb); (try have dl := HCL.out _ hb); clear hb)
    | (go_at_call 91; refine HK.out.f1.mono ?_; rintro e w1 ⟨rfl, hb⟩; have HB := hide hb; have d3 := HK.out.c3 _ hb; (try have df := HCF.out _ hb); (try have dl := HCL.out _ hb); clear hb)
    | (at_builtin; refine wpList_append_own _ rfl (.tmp 39) (.tmp 49) 29 rfl W.heap.size 9 i0 (.string ⟨#[]⟩) 1 16 Try.underlying29 hi hz0 hz1 hz2 rfl (by decide) _ _ _ rfl (by first | exact HR.out.alloc _ | exact World.ownsRow_nil _ _ _ _) ⟨_, 0, none⟩ 1 1 [.string s] rfl rfl (cell_one_new _ _ _) (by simp [Value.oneCell']) (by unfold maxLen; omega) (by omega) (by have := HB.out.size; simp; omega) ?_; intro v1 w3 hr hg hx; clear hx; simp only [Nat.zero_add, List.nil_append, Nat.reduceAdd, List.cons_append] at hr; have hbn := (HB.out.alloc (by have := HB.out.size; omega) _).grown hg (by simp; have := HB.out.size; omega) (fun k hk => by first | exact (ownBlock_lt HR.out hk).1 | cases hk); (try clear HR); clear HB; have HB := hide hbn; have HR := hide hr; have d3 := HK.out.c3 _ hbn; (try have df := HCF.out _ hbn); (try have dl := HCL.out _ hbn); clear hbn hr hg)
    | (at_builtin; refine wpList_append_own _ rfl (.tmp 53) (.tmp 55) 29 rfl W.heap.size 9 i0 (.string ⟨#[]⟩) 1 16 Try.underlying29 hi hz0 hz1 hz2 rfl (by decide) _ _ _ rfl (by first | exact HR.out.alloc _ | exact World.ownsRow_nil _ _ _ _) ⟨_, 0, none⟩ 1 1 [.string s] rfl rfl (cell_one_new _ _ _) (by simp [Value.oneCell']) (by unfold maxLen; omega) (by omega) (by have := HB.out.size; simp; omega) ?_; intro v2 w4 hr hg hx; clear hx; simp only [Nat.zero_add, List.nil_append, Nat.reduceAdd, List.cons_append] at hr; have hbn := (HB.out.alloc (by have := HB.out.size; omega) _).grown hg (by simp; have := HB.out.size; omega) (fun k hk => by first | exact (ownBlock_lt HR.out hk).1 | cases hk); (try clear HR); clear HB; have HB := hide hbn; have HR := hide hr; have d3 := HK.out.c3 _ hbn; (try have df := HCF.out _ hbn); (try have dl := HCL.out _ hbn); clear hbn hr hg)
    | (at_builtin; refine wpList_append_own _ rfl (.tmp 59) (.tmp 69) 29 rfl W.heap.size 9 i0 (.string ⟨#[]⟩) 1 16 Try.underlying29 hi hz0 hz1 hz2 rfl (by decide) _ _ _ rfl (by first | exact HR.out.alloc _ | exact World.ownsRow_nil _ _ _ _) ⟨_, 0, none⟩ 1 1 [.string (pl.extract z pl.size)] rfl rfl (cell_one_new _ _ _) (by simp [Value.oneCell']) (by unfold maxLen; omega) (by omega) (by have := HB.out.size; simp; omega) ?_; intro v3 w5 hr hg hx; clear hx; simp only [Nat.zero_add, List.nil_append, Nat.reduceAdd, List.cons_append] at hr; have hbn := (HB.out.alloc (by have := HB.out.size; omega) _).grown hg (by simp; have := HB.out.size; omega) (fun k hk => by first | exact (ownBlock_lt HR.out hk).1 | cases hk); (try clear HR); clear HB; have HB := hide hbn; have HR := hide hr; have d3 := HK.out.c3 _ hbn; (try have df := HCF.out _ hbn); (try have dl := HCL.out _ hbn); clear hbn hr hg)
    | (go_at_call 121; refine (HK.out.own _ HB.out).mono ?_; rintro e w6 ⟨rfl, sv', h6, hc6⟩; have d6 : w6.cell? ⟨g, 3, none⟩ = some sv' := (by rw [Joins.cell_of_block h6.blk]; rfl); have H6 := hide h6; have HC6 := hide hc6; clear h6 hc6)
    | (go_at_call 122; refine (HREP.out _ _ _ _ HB.out (by first | exact HR.out | exact World.ownsRow_nil _ _ _ _) (by first | exact (fun _ => rfl) | exact (fun e => by cases e)) H6.out HC6.out).mono ?_; rintro e w7 ⟨v7, rfl, hch⟩; obtain ⟨a7, m7, c7, rfl⟩ := slice_of_row hch.row; have q2 : w7.cell? ⟨g, 2, none⟩ = some (.int .i64 (tot ps : Int)) := (by obtain ⟨u, hu⟩ := hch.blk; rw [Joins.cell_of_block hu]; rfl); have r2 : w7.frozen? ⟨g, 2, none⟩ = false := (by obtain ⟨u, hu⟩ := hch.blk; simp [World.frozen?, hu]); obtain ⟨q3v, q3⟩ : ∃ u, w7.cell? ⟨g, 3, none⟩ = some u := (by obtain ⟨u, hu⟩ := hch.blk; exact ⟨u, by rw [Joins.cell_of_block hu]; rfl⟩); have r3 : w7.frozen? ⟨g, 3, none⟩ = false := (by obtain ⟨u, hu⟩ := hch.blk; simp [World.frozen?, hu]); have HCH := hide hch; clear hch HREP))
  go_end0
  exact ⟨rfl, _, HF.out _ _ HCH.out⟩

set_option maxRecDepth 20000 in
set_option maxHeartbeats 2000000 in
theorem change_kooo {W : World} {B g : Nat} {sv : Value} {lent : Bool} {ps : List ByteArray} {s : ByteArray} {n k f a l z : Nat} (hk : Know W B g sv lent ps s n k f a l z) (ha0 : ¬ 0 < a) (hz0' : ¬ 0 < z) (hk0 : 0 < k) (hs0 : s.size = 0) (hnk : n + k ≤ 16777216) (hss : s.size ≤ 16777216) (htt : tot ps ≤ 16777216) (hll : l ≤ 16777216) :
    Calls Try.prog 86 #[.pointer (some ⟨g, 0, none⟩), .int .i64 (n : Int), .int .i64 (k : Int), .string s] W fun e W' => e = .returned (.tuple #[]) ∧ ∃ sv', BufIs W' B g sv' false (chg ps s f a l z) ∧ Chg g sv sv' lent W W' := by
  obtain ⟨i0, hi, hz0, hz1, hz2⟩ := info_parts (show (Try.prog.info? 9).map (fun i => (i.zero, i.size, i.bytes)) = some (some (.string ⟨#[]⟩), 1, 16) by kernel_rfl)
  have HBY : head' ps f a ++ mid' s ++ tail' ps l z = [] := by
    simp [head', mid', tail', ha0, hz0', hs0]
  have hrep : ∀ w4 w5 sv' bv, Below W.heap.size W w4 → w4.ownsRow W.heap.size 9 1 bv 0 [] → (([] : List ByteArray) = [] → bv = .slice none 0 0) → BufIs w5 B g sv' false ps → Chg g sv sv' lent w4 w5 →
      Calls Try.prog 122 #[sv', .int .i64 (f : Int), .int .i64 (l : Int), bv] w5 fun e w6 => ∃ v', e = .returned v' ∧ Changed W w6 B g sv v' lent ps (chg ps s f a l z) := by
    have h := hk.rep
    rw [HBY, show ((past l z : Nat) : Int) = (l : Int) by simp [past, hz0']] at h
    exact h
  have HF := hide hk.fin
  have HK := hide hk
  have w1 : IntKind.i64.wrap ((n : Int) + (k : Int)) = (n : Int) + (k : Int) := by rw [IntKind.wrap_i64]; omega
  have w2 : IntKind.i64.wrap ((l : Int) + 1) = (l : Int) + 1 := by rw [IntKind.wrap_i64]; omega
  have w3 : IntKind.i64.wrap ((s.size : Int) - (k : Int)) = (s.size : Int) - (k : Int) := by rw [IntKind.wrap_i64]; omega
  have w4 : IntKind.i64.wrap ((tot ps : Int) + ((s.size : Int) - (k : Int))) = (tot ps : Int) + ((s.size : Int) - (k : Int)) := by rw [IntKind.wrap_i64]; omega
  have k1 : ¬ (k : Int) = 0 := by omega
  have k2 : (0 : Int) < (k : Int) := by omega
  have z2 : ¬ (0 : Int) < (z : Int) := by omega
  have a2 : ¬ (0 : Int) < (a : Int) := by omega
  have s1 : s.toList.isEmpty = true := toList_none hs0
  have HREP := hide hrep
  clear hk HBY hrep hs0
  go_enter Try.func86, Try.ntmps86
  go_wp2_with (first
    | (go_at_call 91; refine (HK.out.f2 _ HB.out).mono ?_; clear HB; rintro e w2 ⟨rfl, hb⟩; have HB := hide hb; have d3 := HK.out.c3 _ hb; (try have df := HCF.out _ hb); (try have dl := HCL.out _ hb); clear hb)
    | (go_at_call 91; refine HK.out.f1.mono ?_; rintro e w1 ⟨rfl, hb⟩; have HB := hide hb; have d3 := HK.out.c3 _ hb; (try have df := HCF.out _ hb); (try have dl := HCL.out _ hb); clear hb)
    | (at_builtin; refine wpList_append_own _ rfl (.tmp 39) (.tmp 49) 29 rfl W.heap.size 9 i0 (.string ⟨#[]⟩) 1 16 Try.underlying29 hi hz0 hz1 hz2 rfl (by decide) _ _ _ rfl (by first | exact HR.out.alloc _ | exact World.ownsRow_nil _ _ _ _) ⟨_, 0, none⟩ 1 1 [.string s] rfl rfl (cell_one_new _ _ _) (by simp [Value.oneCell']) (by unfold maxLen; omega) (by omega) (by have := HB.out.size; simp; omega) ?_; intro v1 w3 hr hg hx; clear hx; simp only [Nat.zero_add, List.nil_append, Nat.reduceAdd, List.cons_append] at hr; have hbn := (HB.out.alloc (by have := HB.out.size; omega) _).grown hg (by simp; have := HB.out.size; omega) (fun k hk => by first | exact (ownBlock_lt HR.out hk).1 | cases hk); (try clear HR); clear HB; have HB := hide hbn; have HR := hide hr; have d3 := HK.out.c3 _ hbn; (try have df := HCF.out _ hbn); (try have dl := HCL.out _ hbn); clear hbn hr hg)
    | (at_builtin; refine wpList_append_own _ rfl (.tmp 53) (.tmp 55) 29 rfl W.heap.size 9 i0 (.string ⟨#[]⟩) 1 16 Try.underlying29 hi hz0 hz1 hz2 rfl (by decide) _ _ _ rfl (by first | exact HR.out.alloc _ | exact World.ownsRow_nil _ _ _ _) ⟨_, 0, none⟩ 1 1 [.string s] rfl rfl (cell_one_new _ _ _) (by simp [Value.oneCell']) (by unfold maxLen; omega) (by omega) (by have := HB.out.size; simp; omega) ?_; intro v2 w4 hr hg hx; clear hx; simp only [Nat.zero_add, List.nil_append, Nat.reduceAdd, List.cons_append] at hr; have hbn := (HB.out.alloc (by have := HB.out.size; omega) _).grown hg (by simp; have := HB.out.size; omega) (fun k hk => by first | exact (ownBlock_lt HR.out hk).1 | cases hk); (try clear HR); clear HB; have HB := hide hbn; have HR := hide hr; have d3 := HK.out.c3 _ hbn; (try have df := HCF.out _ hbn); (try have dl := HCL.out _ hbn); clear hbn hr hg)
    | (at_builtin; refine wpList_append_own _ rfl (.tmp 59) (.tmp 69) 29 rfl W.heap.size 9 i0 (.string ⟨#[]⟩) 1 16 Try.underlying29 hi hz0 hz1 hz2 rfl (by decide) _ _ _ rfl (by first | exact HR.out.alloc _ | exact World.ownsRow_nil _ _ _ _) ⟨_, 0, none⟩ 1 1 [.string s] rfl rfl (cell_one_new _ _ _) (by simp [Value.oneCell']) (by unfold maxLen; omega) (by omega) (by have := HB.out.size; simp; omega) ?_; intro v3 w5 hr hg hx; clear hx; simp only [Nat.zero_add, List.nil_append, Nat.reduceAdd, List.cons_append] at hr; have hbn := (HB.out.alloc (by have := HB.out.size; omega) _).grown hg (by simp; have := HB.out.size; omega) (fun k hk => by first | exact (ownBlock_lt HR.out hk).1 | cases hk); (try clear HR); clear HB; have HB := hide hbn; have HR := hide hr; have d3 := HK.out.c3 _ hbn; (try have df := HCF.out _ hbn); (try have dl := HCL.out _ hbn); clear hbn hr hg)
    | (go_at_call 121; refine (HK.out.own _ HB.out).mono ?_; rintro e w6 ⟨rfl, sv', h6, hc6⟩; have d6 : w6.cell? ⟨g, 3, none⟩ = some sv' := (by rw [Joins.cell_of_block h6.blk]; rfl); have H6 := hide h6; have HC6 := hide hc6; clear h6 hc6)
    | (go_at_call 122; refine (HREP.out _ _ _ _ HB.out (by first | exact HR.out | exact World.ownsRow_nil _ _ _ _) (by first | exact (fun _ => rfl) | exact (fun e => by cases e)) H6.out HC6.out).mono ?_; rintro e w7 ⟨v7, rfl, hch⟩; obtain ⟨a7, m7, c7, rfl⟩ := slice_of_row hch.row; have q2 : w7.cell? ⟨g, 2, none⟩ = some (.int .i64 (tot ps : Int)) := (by obtain ⟨u, hu⟩ := hch.blk; rw [Joins.cell_of_block hu]; rfl); have r2 : w7.frozen? ⟨g, 2, none⟩ = false := (by obtain ⟨u, hu⟩ := hch.blk; simp [World.frozen?, hu]); obtain ⟨q3v, q3⟩ : ∃ u, w7.cell? ⟨g, 3, none⟩ = some u := (by obtain ⟨u, hu⟩ := hch.blk; exact ⟨u, by rw [Joins.cell_of_block hu]; rfl⟩); have r3 : w7.frozen? ⟨g, 3, none⟩ = false := (by obtain ⟨u, hu⟩ := hch.blk; simp [World.frozen?, hu]); have HCH := hide hch; clear hch HREP))
  go_end0
  exact ⟨rfl, _, HF.out _ _ HCH.out⟩

set_option maxRecDepth 20000 in
set_option maxHeartbeats 2000000 in
theorem change_oasz {W : World} {B g : Nat} {sv : Value} {lent : Bool} {ps : List ByteArray} {s : ByteArray} {n f a : Nat} {kb cap : Nat} (hk : Know W B g sv lent ps s n 0 f a f a) (hsv : sv = .slice (some ⟨kb, 0, none⟩) ps.length cap) (hcf : ∀ w, Below W.heap.size W w → w.cell? ⟨kb, f, none⟩ = some (.string (at' ps f))) (hf : f < ps.length) (ha : a < (at' ps f).size) (ha0 : 0 < a) (hs0 : s.size ≠ 0) (hnk : n + 0 ≤ 16777216) (hss : s.size ≤ 16777216) (htt : tot ps ≤ 16777216) (hll : f ≤ 16777216) (hsm1 : (at' ps f).size ≤ 16777216) :
    Calls Try.prog 86 #[.pointer (some ⟨g, 0, none⟩), .int .i64 (n : Int), .int .i64 0, .string s] W fun e W' => e = .returned (.tuple #[]) ∧ ∃ sv', BufIs W' B g sv' false (chg ps s f a f a) ∧ Chg g sv sv' lent W W' := by
  obtain ⟨i0, hi, hz0, hz1, hz2⟩ := info_parts (show (Try.prog.info? 9).map (fun i => (i.zero, i.size, i.bytes)) = some (some (.string ⟨#[]⟩), 1, 16) by kernel_rfl)
  have HBY : head' ps f a ++ mid' s ++ tail' ps f a = [(at' ps f).extract 0 a, s, (at' ps f).extract a (at' ps f).size] := by
    simp [head', mid', tail', ha0, hs0]
  have hrep : ∀ w4 w5 sv' bv, Below W.heap.size W w4 → w4.ownsRow W.heap.size 9 1 bv 3 [.string ((at' ps f).extract 0 a), .string (s), .string ((at' ps f).extract a (at' ps f).size)] → (([(at' ps f).extract 0 a, s, (at' ps f).extract a (at' ps f).size] : List ByteArray) = [] → bv = .slice none 0 0) → BufIs w5 B g sv' false ps → Chg g sv sv' lent w4 w5 →
      Calls Try.prog 122 #[sv', .int .i64 (f : Int), .int .i64 ((f : Int) + 1), bv] w5 fun e w6 => ∃ v', e = .returned v' ∧ Changed W w6 B g sv v' lent ps (chg ps s f a f a) := by
    have h := hk.rep
    rw [HBY, show ((past f a : Nat) : Int) = (f : Int) + 1 by simp [past, ha0]] at h
    exact h
  have hfin : ∀ w v', Changed W w B g sv v' lent ps (chg ps s f a f a) → BufIs ((w.setCell ⟨g, 3, none⟩ v').setCell ⟨g, 2, none⟩ (.int .i64 ((tot ps : Int) + (s.size : Int)))) B g v' false (chg ps s f a f a) ∧ Chg g sv v' lent W ((w.setCell ⟨g, 3, none⟩ v').setCell ⟨g, 2, none⟩ (.int .i64 ((tot ps : Int) + (s.size : Int)))) := by
    have h := hk.fin
    simpa using h
  have HF := hide hfin
  have HK := hide hk
  have w2 : IntKind.i64.wrap ((f : Int) + 1) = (f : Int) + 1 := by rw [IntKind.wrap_i64]; omega
  have w3 : IntKind.i64.wrap (s.size : Int) = (s.size : Int) := by rw [IntKind.wrap_i64]; omega
  have w4 : IntKind.i64.wrap ((tot ps : Int) + (s.size : Int)) = (tot ps : Int) + (s.size : Int) := by rw [IntKind.wrap_i64]; omega
  have a2 : (0 : Int) < (a : Int) := by omega
  have s1 : s.toList.isEmpty = false := toList_some hs0
  have HREP := hide hrep
  generalize at' ps f = pf at *
  have HCF := hide hcf
  clear hk HBY hrep hs0 hfin hcf
  subst hsv
  go_enter Try.func86, Try.ntmps86
  go_wp2_with (first
    | (go_at_call 91; refine (HK.out.f2 _ HB.out).mono ?_; clear HB; rintro e w2 ⟨rfl, hb⟩; have HB := hide hb; have d3 := HK.out.c3 _ hb; (try have df := HCF.out _ hb); (try have dl := HCL.out _ hb); clear hb)
    | (go_at_call 91; refine HK.out.f1.mono ?_; rintro e w1 ⟨rfl, hb⟩; have HB := hide hb; have d3 := HK.out.c3 _ hb; (try have df := HCF.out _ hb); (try have dl := HCL.out _ hb); clear hb)
    | (at_builtin; refine wpList_append_own _ rfl (.tmp 39) (.tmp 49) 29 rfl W.heap.size 9 i0 (.string ⟨#[]⟩) 1 16 Try.underlying29 hi hz0 hz1 hz2 rfl (by decide) _ _ _ rfl (by first | exact HR.out.alloc _ | exact World.ownsRow_nil _ _ _ _) ⟨_, 0, none⟩ 1 1 [.string (pf.extract 0 a)] rfl rfl (cell_one_new _ _ _) (by simp [Value.oneCell']) (by unfold maxLen; omega) (by omega) (by have := HB.out.size; simp; omega) ?_; intro v1 w3 hr hg hx; clear hx; simp only [Nat.zero_add, List.nil_append, Nat.reduceAdd, List.cons_append] at hr; have hbn := (HB.out.alloc (by have := HB.out.size; omega) _).grown hg (by simp; have := HB.out.size; omega) (fun k hk => by first | exact (ownBlock_lt HR.out hk).1 | cases hk); (try clear HR); clear HB; have HB := hide hbn; have HR := hide hr; have d3 := HK.out.c3 _ hbn; (try have df := HCF.out _ hbn); (try have dl := HCL.out _ hbn); clear hbn hr hg)
    | (at_builtin; refine wpList_append_own _ rfl (.tmp 53) (.tmp 55) 29 rfl W.heap.size 9 i0 (.string ⟨#[]⟩) 1 16 Try.underlying29 hi hz0 hz1 hz2 rfl (by decide) _ _ _ rfl (by first | exact HR.out.alloc _ | exact World.ownsRow_nil _ _ _ _) ⟨_, 0, none⟩ 1 1 [.string s] rfl rfl (cell_one_new _ _ _) (by simp [Value.oneCell']) (by unfold maxLen; omega) (by omega) (by have := HB.out.size; simp; omega) ?_; intro v2 w4 hr hg hx; clear hx; simp only [Nat.zero_add, List.nil_append, Nat.reduceAdd, List.cons_append] at hr; have hbn := (HB.out.alloc (by have := HB.out.size; omega) _).grown hg (by simp; have := HB.out.size; omega) (fun k hk => by first | exact (ownBlock_lt HR.out hk).1 | cases hk); (try clear HR); clear HB; have HB := hide hbn; have HR := hide hr; have d3 := HK.out.c3 _ hbn; (try have df := HCF.out _ hbn); (try have dl := HCL.out _ hbn); clear hbn hr hg)
    | (at_builtin; refine wpList_append_own _ rfl (.tmp 59) (.tmp 69) 29 rfl W.heap.size 9 i0 (.string ⟨#[]⟩) 1 16 Try.underlying29 hi hz0 hz1 hz2 rfl (by decide) _ _ _ rfl (by first | exact HR.out.alloc _ | exact World.ownsRow_nil _ _ _ _) ⟨_, 0, none⟩ 1 1 [.string (pf.extract a pf.size)] rfl rfl (cell_one_new _ _ _) (by simp [Value.oneCell']) (by unfold maxLen; omega) (by omega) (by have := HB.out.size; simp; omega) ?_; intro v3 w5 hr hg hx; clear hx; simp only [Nat.zero_add, List.nil_append, Nat.reduceAdd, List.cons_append] at hr; have hbn := (HB.out.alloc (by have := HB.out.size; omega) _).grown hg (by simp; have := HB.out.size; omega) (fun k hk => by first | exact (ownBlock_lt HR.out hk).1 | cases hk); (try clear HR); clear HB; have HB := hide hbn; have HR := hide hr; have d3 := HK.out.c3 _ hbn; (try have df := HCF.out _ hbn); (try have dl := HCL.out _ hbn); clear hbn hr hg)
    | (go_at_call 121; refine (HK.out.own _ HB.out).mono ?_; rintro e w6 ⟨rfl, sv', h6, hc6⟩; have d6 : w6.cell? ⟨g, 3, none⟩ = some sv' := (by rw [Joins.cell_of_block h6.blk]; rfl); have H6 := hide h6; have HC6 := hide hc6; clear h6 hc6)
    | (go_at_call 122; refine (HREP.out _ _ _ _ HB.out (by first | exact HR.out | exact World.ownsRow_nil _ _ _ _) (by first | exact (fun _ => rfl) | exact (fun e => by cases e)) H6.out HC6.out).mono ?_; rintro e w7 ⟨v7, rfl, hch⟩; obtain ⟨a7, m7, c7, rfl⟩ := slice_of_row hch.row; have q2 : w7.cell? ⟨g, 2, none⟩ = some (.int .i64 (tot ps : Int)) := (by obtain ⟨u, hu⟩ := hch.blk; rw [Joins.cell_of_block hu]; rfl); have r2 : w7.frozen? ⟨g, 2, none⟩ = false := (by obtain ⟨u, hu⟩ := hch.blk; simp [World.frozen?, hu]); obtain ⟨q3v, q3⟩ : ∃ u, w7.cell? ⟨g, 3, none⟩ = some u := (by obtain ⟨u, hu⟩ := hch.blk; exact ⟨u, by rw [Joins.cell_of_block hu]; rfl⟩); have r3 : w7.frozen? ⟨g, 3, none⟩ = false := (by obtain ⟨u, hu⟩ := hch.blk; simp [World.frozen?, hu]); have HCH := hide hch; clear hch HREP))
  go_end0
  exact ⟨rfl, _, HF.out _ _ HCH.out⟩

set_option maxRecDepth 20000 in
set_option maxHeartbeats 2000000 in
theorem change_ooso {W : World} {B g : Nat} {sv : Value} {lent : Bool} {ps : List ByteArray} {s : ByteArray} {n f a : Nat} (hk : Know W B g sv lent ps s n 0 f a f a) (ha0 : ¬ 0 < a) (hs0 : s.size ≠ 0) (hnk : n + 0 ≤ 16777216) (hss : s.size ≤ 16777216) (htt : tot ps ≤ 16777216) (hll : f ≤ 16777216) :
    Calls Try.prog 86 #[.pointer (some ⟨g, 0, none⟩), .int .i64 (n : Int), .int .i64 0, .string s] W fun e W' => e = .returned (.tuple #[]) ∧ ∃ sv', BufIs W' B g sv' false (chg ps s f a f a) ∧ Chg g sv sv' lent W W' := by
  obtain ⟨i0, hi, hz0, hz1, hz2⟩ := info_parts (show (Try.prog.info? 9).map (fun i => (i.zero, i.size, i.bytes)) = some (some (.string ⟨#[]⟩), 1, 16) by kernel_rfl)
  have HBY : head' ps f a ++ mid' s ++ tail' ps f a = [s] := by
    simp [head', mid', tail', ha0, hs0]
  have hrep : ∀ w4 w5 sv' bv, Below W.heap.size W w4 → w4.ownsRow W.heap.size 9 1 bv 1 [.string (s)] → (([s] : List ByteArray) = [] → bv = .slice none 0 0) → BufIs w5 B g sv' false ps → Chg g sv sv' lent w4 w5 →
      Calls Try.prog 122 #[sv', .int .i64 (f : Int), .int .i64 (f : Int), bv] w5 fun e w6 => ∃ v', e = .returned v' ∧ Changed W w6 B g sv v' lent ps (chg ps s f a f a) := by
    have h := hk.rep
    rw [HBY, show ((past f a : Nat) : Int) = (f : Int) by simp [past, ha0]] at h
    exact h
  have hfin : ∀ w v', Changed W w B g sv v' lent ps (chg ps s f a f a) → BufIs ((w.setCell ⟨g, 3, none⟩ v').setCell ⟨g, 2, none⟩ (.int .i64 ((tot ps : Int) + (s.size : Int)))) B g v' false (chg ps s f a f a) ∧ Chg g sv v' lent W ((w.setCell ⟨g, 3, none⟩ v').setCell ⟨g, 2, none⟩ (.int .i64 ((tot ps : Int) + (s.size : Int)))) := by
    have h := hk.fin
    simpa using h
  have HF := hide hfin
  have HK := hide hk
  have w2 : IntKind.i64.wrap ((f : Int) + 1) = (f : Int) + 1 := by rw [IntKind.wrap_i64]; omega
  have w3 : IntKind.i64.wrap (s.size : Int) = (s.size : Int) := by rw [IntKind.wrap_i64]; omega
  have w4 : IntKind.i64.wrap ((tot ps : Int) + (s.size : Int)) = (tot ps : Int) + (s.size : Int) := by rw [IntKind.wrap_i64]; omega
  have a2 : ¬ (0 : Int) < (a : Int) := by omega
  have s1 : s.toList.isEmpty = false := toList_some hs0
  have HREP := hide hrep
  clear hk HBY hrep hs0 hfin
  go_enter Try.func86, Try.ntmps86
  go_wp2_with (first
    | (go_at_call 91; refine (HK.out.f2 _ HB.out).mono ?_; clear HB; rintro e w2 ⟨rfl, hb⟩; have HB := hide hb; have d3 := HK.out.c3 _ hb; (try have df := HCF.out _ hb); (try have dl := HCL.out _ hb); clear hb)
    | (go_at_call 91; refine HK.out.f1.mono ?_; rintro e w1 ⟨rfl, hb⟩; have HB := hide hb; have d3 := HK.out.c3 _ hb; (try have df := HCF.out _ hb); (try have dl := HCL.out _ hb); clear hb)
    | (at_builtin; refine wpList_append_own _ rfl (.tmp 39) (.tmp 49) 29 rfl W.heap.size 9 i0 (.string ⟨#[]⟩) 1 16 Try.underlying29 hi hz0 hz1 hz2 rfl (by decide) _ _ _ rfl (by first | exact HR.out.alloc _ | exact World.ownsRow_nil _ _ _ _) ⟨_, 0, none⟩ 1 1 [.string s] rfl rfl (cell_one_new _ _ _) (by simp [Value.oneCell']) (by unfold maxLen; omega) (by omega) (by have := HB.out.size; simp; omega) ?_; intro v1 w3 hr hg hx; clear hx; simp only [Nat.zero_add, List.nil_append, Nat.reduceAdd, List.cons_append] at hr; have hbn := (HB.out.alloc (by have := HB.out.size; omega) _).grown hg (by simp; have := HB.out.size; omega) (fun k hk => by first | exact (ownBlock_lt HR.out hk).1 | cases hk); (try clear HR); clear HB; have HB := hide hbn; have HR := hide hr; have d3 := HK.out.c3 _ hbn; (try have df := HCF.out _ hbn); (try have dl := HCL.out _ hbn); clear hbn hr hg)
    | (at_builtin; refine wpList_append_own _ rfl (.tmp 53) (.tmp 55) 29 rfl W.heap.size 9 i0 (.string ⟨#[]⟩) 1 16 Try.underlying29 hi hz0 hz1 hz2 rfl (by decide) _ _ _ rfl (by first | exact HR.out.alloc _ | exact World.ownsRow_nil _ _ _ _) ⟨_, 0, none⟩ 1 1 [.string s] rfl rfl (cell_one_new _ _ _) (by simp [Value.oneCell']) (by unfold maxLen; omega) (by omega) (by have := HB.out.size; simp; omega) ?_; intro v2 w4 hr hg hx; clear hx; simp only [Nat.zero_add, List.nil_append, Nat.reduceAdd, List.cons_append] at hr; have hbn := (HB.out.alloc (by have := HB.out.size; omega) _).grown hg (by simp; have := HB.out.size; omega) (fun k hk => by first | exact (ownBlock_lt HR.out hk).1 | cases hk); (try clear HR); clear HB; have HB := hide hbn; have HR := hide hr; have d3 := HK.out.c3 _ hbn; (try have df := HCF.out _ hbn); (try have dl := HCL.out _ hbn); clear hbn hr hg)
    | (at_builtin; refine wpList_append_own _ rfl (.tmp 59) (.tmp 69) 29 rfl W.heap.size 9 i0 (.string ⟨#[]⟩) 1 16 Try.underlying29 hi hz0 hz1 hz2 rfl (by decide) _ _ _ rfl (by first | exact HR.out.alloc _ | exact World.ownsRow_nil _ _ _ _) ⟨_, 0, none⟩ 1 1 [.string s] rfl rfl (cell_one_new _ _ _) (by simp [Value.oneCell']) (by unfold maxLen; omega) (by omega) (by have := HB.out.size; simp; omega) ?_; intro v3 w5 hr hg hx; clear hx; simp only [Nat.zero_add, List.nil_append, Nat.reduceAdd, List.cons_append] at hr; have hbn := (HB.out.alloc (by have := HB.out.size; omega) _).grown hg (by simp; have := HB.out.size; omega) (fun k hk => by first | exact (ownBlock_lt HR.out hk).1 | cases hk); (try clear HR); clear HB; have HB := hide hbn; have HR := hide hr; have d3 := HK.out.c3 _ hbn; (try have df := HCF.out _ hbn); (try have dl := HCL.out _ hbn); clear hbn hr hg)
    | (go_at_call 121; refine (HK.out.own _ HB.out).mono ?_; rintro e w6 ⟨rfl, sv', h6, hc6⟩; have d6 : w6.cell? ⟨g, 3, none⟩ = some sv' := (by rw [Joins.cell_of_block h6.blk]; rfl); have H6 := hide h6; have HC6 := hide hc6; clear h6 hc6)
    | (go_at_call 122; refine (HREP.out _ _ _ _ HB.out (by first | exact HR.out | exact World.ownsRow_nil _ _ _ _) (by first | exact (fun _ => rfl) | exact (fun e => by cases e)) H6.out HC6.out).mono ?_; rintro e w7 ⟨v7, rfl, hch⟩; obtain ⟨a7, m7, c7, rfl⟩ := slice_of_row hch.row; have q2 : w7.cell? ⟨g, 2, none⟩ = some (.int .i64 (tot ps : Int)) := (by obtain ⟨u, hu⟩ := hch.blk; rw [Joins.cell_of_block hu]; rfl); have r2 : w7.frozen? ⟨g, 2, none⟩ = false := (by obtain ⟨u, hu⟩ := hch.blk; simp [World.frozen?, hu]); obtain ⟨q3v, q3⟩ : ∃ u, w7.cell? ⟨g, 3, none⟩ = some u := (by obtain ⟨u, hu⟩ := hch.blk; exact ⟨u, by rw [Joins.cell_of_block hu]; rfl⟩); have r3 : w7.frozen? ⟨g, 3, none⟩ = false := (by obtain ⟨u, hu⟩ := hch.blk; simp [World.frozen?, hu]); have HCH := hide hch; clear hch HREP))
  go_end0
  exact ⟨rfl, _, HF.out _ _ HCH.out⟩

end Go.Proofs.Ytpmijaplkbmbiaa
