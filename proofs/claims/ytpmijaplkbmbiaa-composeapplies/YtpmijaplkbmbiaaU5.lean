/- The edit between two texts. -/
import Derived.Test.YtpmijaplkbmbiaaU4
import Derived.Test.YtpmijaplkbmbiaaEdT
namespace Go.Proofs.Ytpmijaplkbmbiaa.E
open Go.Proofs.Ytpmijaplkbmbiaa Go.RowKit Go.By Go.Shelf
set_option linter.unusedVariables false
set_option linter.unusedSimpArgs false

def hdN (a b : ByteArray) : Nat := headN a.data.toList b.data.toList
def tlN (a b : ByteArray) : Nat := tailN a.data.toList b.data.toList
def betS (a b : ByteArray) : List Rn := [⟨(hdN a b : Int), ⟨#[]⟩, 0⟩, ⟨0, b.extract (hdN a b) (b.size - tlN a b), 0⟩, ⟨0, ⟨#[]⟩, ((a.size - tlN a b - hdN a b : Nat) : Int)⟩, ⟨(tlN a b : Int), ⟨#[]⟩, 0⟩]
theorem sz_list (a : ByteArray) : a.data.toList.length = a.size := by rw [Array.length_toList]; rfl
theorem betS_eq (a b : ByteArray) : betS a b = betL a.data.toList b.data.toList := by
  have e : b.extract (hdN a b) (b.size - tlN a b) = ⟨((b.data.toList.drop (hdN a b)).take (b.data.toList.length - tlN a b - hdN a b)).toArray⟩ := by
    apply ba_eq
    rw [ext_list, sz_list]
  rw [betS, e, betL, sz_list]; rfl
theorem bet_le (a b : ByteArray) : hdN a b + tlN a b ≤ a.size ∧ hdN a b + tlN a b ≤ b.size := by
  have := bet_bounds a.data.toList b.data.toList
  rw [sz_list, sz_list] at this; exact this
/-- What Between tells. -/
def betR (a b : ByteArray) : List Rn := if max a.size b.size ≤ 16777216 then normR (betS a b) else []

theorem head_is (a b : ByteArray) : hdN a b = cnt (min a.size b.size) fun i => a.data.toList.getD i 0 == b.data.toList.getD i 0 := by rw [hdN, headN, sz_list, sz_list]
theorem tail_is (a b : ByteArray) : tlN a b = cnt (min a.size b.size - hdN a b) fun i => a.data.toList.getD (a.data.toList.length - 1 - i) 0 == b.data.toList.getD (b.data.toList.length - 1 - i) 0 := by rw [tlN, tailN, sz_list, sz_list]; rfl

theorem below_drew {B : Nat} {w0 w : World} (h : Below B w0 w) : Below B w0 w.drew := ⟨h.os, h.tape, h.output, h.size, h.block⟩
theorem norm_newd (w : World) (L : List Rn) (cap : Nat) (hl : L.length ≤ 1000000) :
    Calls Try.prog 60 #[.slice (some ⟨w.heap.size, 0, none⟩) L.length cap] (w.alloc (.cells (cellsR L).toArray 91)).drew fun e W' => Gives w.heap.size w (normR L) e W' :=
  (norm_any _ cap L _ (came_up (came_new w L) (below_drew (Below.refl _ _))) hl).mono fun e W' ⟨a, c, he, hc, hb⟩ => ⟨a, c, he, hc, (below_drew ((Below.refl _ w).alloc (Nat.le_refl _) _)).trans (hb.mono (show w.heap.size ≤ (w.alloc _).heap.size by simp))⟩

set_option maxRecDepth 100000 in
set_option maxHeartbeats 4000000 in
theorem between_any (a b : ByteArray) (w : World) : Calls Try.prog 76 #[.string a, .string b] w fun e W' => Gives w.heap.size w (betR a b) e W' := by
  have hba : Below w.heap.size w ((w.alloc (.cells #[.string a] 9)).alloc (.cells #[.string b] 9)) := ((Below.refl _ w).alloc (Nat.le_refl _) _).alloc (by simp) _
  have ha0 : ((w.alloc (.cells #[.string a] 9)).alloc (.cells #[.string b] 9)).heap[w.heap.size]? = some (.cells #[.string a] 9 (0, 0)) := (Below.heap_alloc _ _ _ (by simp)).trans (World.alloc_heap_new w _)
  have hb0 : ((w.alloc (.cells #[.string a] 9)).alloc (.cells #[.string b] 9)).heap[w.heap.size + 1]? = some (.cells #[.string b] 9 (0, 0)) := by
    have := World.alloc_heap_new (w.alloc (.cells #[.string a] 9)) (.cells #[.string b] 9); rwa [World.size_alloc] at this
  have hs : ((w.alloc (.cells #[.string a] 9)).alloc (.cells #[.string b] 9)).heap.size = w.heap.size + 1 + 1 := by simp
  obtain ⟨V, hV⟩ : ∃ V, V = (w.alloc (.cells #[.string a] 9)).alloc (.cells #[.string b] 9) := ⟨_, rfl⟩
  go_enter Try.func76, Try.ntmps76
  by_cases hmx : 16777216 < max (a.size : Int) (b.size : Int)
  · have HQ : Hid (betR a b = []) := hide (by rw [betR, if_neg (by omega)])
    have HB := hide hba
    clear hba ha0 hb0 hs hV
    go_wp2
    go_ret
    rw [HQ.out]
    exact ⟨none, 0, rfl, .inl rfl, HB.out⟩
  rw [← hV] at hba ha0 hb0 hs
  have HR : Hid (betR a b = normR (betS a b)) := hide (by rw [betR, if_pos (by omega)])
  obtain ⟨l1, l2⟩ := bet_le a b
  have hh := head_is a b
  have ht := tail_is a b
  have hcell : ∀ W, Below V.heap.size V W → W.cell? ⟨w.heap.size, 0, none⟩ = some (.string a) ∧ W.cell? ⟨w.heap.size + 1, 0, none⟩ = some (.string b) := fun W hW =>
    ⟨by rw [Joins.cell_of_block ((hW.block _ (by omega)).trans ha0)]; rfl, by rw [Joins.cell_of_block ((hW.block _ (by omega)).trans hb0)]; rfl⟩
  have c1 := count1 (min a.size b.size) w.heap.size (w.heap.size + 1) (fun i => a.data.toList.getD i 0 == b.data.toList.getD i 0) V (by omega) fun i W' hi hW => same1 _ _ i a b W' (hcell W' hW).1 (hcell W' hW).2 (by omega) (by omega)
  have c2 : ∀ W, Below V.heap.size V W → Calls Try.prog 114 #[.int .i64 ((min a.size b.size - hdN a b : Nat) : Int), .func (.func 116) #[] #[.pointer (some ⟨w.heap.size, 0, none⟩), .pointer (some ⟨w.heap.size + 1, 0, none⟩)]] W fun e W' => e = .returned (.int .i64 (tlN a b : Int)) ∧ Below W.heap.size W W' := fun W hW => by
    rw [ht]
    exact count2 _ w.heap.size (w.heap.size + 1) _ W (by omega) fun i W' hi hW' => same2 _ _ i a b W' (hcell W' (hW.trans (hW'.mono hW.size))).1 (hcell W' (hW.trans (hW'.mono hW.size))).2 (by omega) (by omega) (by omega) (by omega)
  rw [← hh] at c1
  have w1 : IntKind.i64.wrap (((min a.size b.size : Nat) : Int) - (hdN a b : Int)) = ((min a.size b.size - hdN a b : Nat) : Int) := by rw [IntKind.wrap_i64]; omega
  have w2 : IntKind.i64.wrap ((b.size : Int) - (tlN a b : Int)) = ((b.size - tlN a b : Nat) : Int) := by rw [IntKind.wrap_i64]; omega
  have w3 : IntKind.i64.wrap ((a.size : Int) - (tlN a b : Int)) = ((a.size - tlN a b : Nat) : Int) := by rw [IntKind.wrap_i64]; omega
  have w4 : IntKind.i64.wrap (((a.size - tlN a b : Nat) : Int) - (hdN a b : Int)) = ((a.size - tlN a b - hdN a b : Nat) : Int) := by rw [IntKind.wrap_i64]; omega
  have i1 : hdN a b ≤ b.size - tlN a b := by omega
  have i2 : b.size - tlN a b ≤ b.size := by omega
  have i3 : (hdN a b : Int) ≤ ((b.size - tlN a b : Nat) : Int) := by omega
  have i4 : ((b.size - tlN a b : Nat) : Int) ≤ (b.size : Int) := by omega
  have mn : min (a.size : Int) (b.size : Int) = ((min a.size b.size : Nat) : Int) := by omega
  have HC := hide hcell
  have HC2 := hide c2
  have hN : ∀ W, Calls Try.prog 60 #[.slice (some ⟨W.heap.size, 0, none⟩) 4 4] (W.alloc (.cells (cellsR (betS a b)).toArray 91)).drew fun e W' => Gives W.heap.size W (normR (betS a b)) e W' := fun W => norm_newd W (betS a b) 4 (by simp [betS])
  have hc0 := (hcell V (Below.refl _ _)).1
  have hc1 := (hcell V (Below.refl _ _)).2
  have HBA := hide hba
  unfold betS at hN
  clear hba ha0 hb0 hh ht hcell c2 l1 l2
  go_wp2_with (first
    | (go_at_call 114; refine (HC2.out W1 HB1.out).mono ?_; rintro e W2 ⟨rfl, hb⟩; have HB2 := hide (HB1.out.trans (hb.mono HB1.out.size)); obtain ⟨y0, y1⟩ := HC.out W2 HB2.out; clear hb)
    | (go_at_call 114; rw [← hV]; refine c1.mono ?_; rintro e W1 ⟨rfl, hb⟩; have HB1 := hide hb; obtain ⟨z0, z1⟩ := HC.out W1 hb; clear hb c1))
  go_region_with (go_at_call 60; refine (hN W2).mono ?_; rintro e W3 ⟨a3, c3, rfl, hc, hb⟩; have HC3 := hide hc; have HB3 := hide (HBA.out.trans ((HB2.out.mono HBA.out.size).trans (hb.mono (Nat.le_trans HBA.out.size HB2.out.size)))); clear hc hb)
  all_goals go_wp2_with fail
  all_goals go_ret
  all_goals (rw [HR.out]; exact ⟨a3, c3, rfl, HC3.out, HB3.out⟩)

end Go.Proofs.Ytpmijaplkbmbiaa.E
