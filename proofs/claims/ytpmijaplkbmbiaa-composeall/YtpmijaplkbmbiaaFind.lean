/- The buffer: the piece that has a byte. -/
import Derived.Test.YtpmijaplkbmbiaaPiece
import Derived.Laws.EntriesVeiled
namespace Go.Proofs.Ytpmijaplkbmbiaa
open Go.RowKit Go.By Go.Shelf
set_option linter.unusedVariables false
attribute [local go_sem] Oper.semAt_some

/-- How many bytes pieces have together. -/
def tot : List ByteArray → Nat
  | [] => 0
  | p :: ps => p.size + tot ps

theorem tot_append (a b : List ByteArray) : tot (a ++ b) = tot a + tot b := by
  induction a with
  | nil => simp [tot]
  | cons p a ih => simp [tot, ih, Nat.add_assoc]

/-- The piece that has the byte behind 'at' others, and how many of its bytes are ahead of that; behind all bytes: the number of pieces, and 0. -/
def findP : List ByteArray → Nat → Nat × Nat
  | [], _ => (0, 0)
  | p :: ps, n => if n < p.size then (0, n) else ((findP ps (n - p.size)).1 + 1, (findP ps (n - p.size)).2)

theorem findP_at {q rest : List ByteArray} {p : ByteArray} {n : Nat} (h1 : tot q ≤ n) (h2 : n - tot q < p.size) : findP (q ++ p :: rest) n = (q.length, n - tot q) := by
  induction q generalizing n with
  | nil => simp [findP, tot] at *; simp [h2]
  | cons x q ih =>
    simp only [tot] at h1 h2
    have : ¬ n < x.size := by omega
    simp only [List.cons_append, findP, if_neg this, List.length_cons]
    rw [ih (n := n - x.size) (by omega) (by omega)]
    simp only [tot]
    rw [show n - x.size - tot q = n - (x.size + tot q) by omega]

theorem findP_end {q : List ByteArray} {n : Nat} (h : tot q ≤ n) : findP q n = (q.length, 0) := by
  induction q generalizing n with
  | nil => rfl
  | cons x q ih =>
    simp only [tot] at h
    have : ¬ n < x.size := by omega
    simp only [findP, if_neg this, List.length_cons]
    rw [ih (n := n - x.size) (by omega)]

/-- The variables of find, in their boxes. -/
structure FB (W : World) (H n : Nat) (x y c i : Int) : Prop where
  b0 : Boxed W H 3 (.int .i64 (n : Int))
  b1 : Boxed W (H + 1) 3 (.int .i64 x)
  b2 : Boxed W (H + 1 + 1) 3 (.int .i64 y)
  b3 : Boxed W (H + 1 + 1 + 1) 3 (.int .i64 c)
  b4 : Boxed W (H + 1 + 1 + 1 + 1) 119 (.func (.func 149) #[] #[.pointer (some ⟨H + 1 + 1 + 1, 0, none⟩)])
  b5 : Boxed W (H + 1 + 1 + 1 + 1 + 1) 3 (.int .i64 i)

theorem boxed_keep {X Y : World} {row : Option Nat} {B : Nat} {t : TypeId} {v : Value} (h : Boxed X B t v) (hg : X.grownBy Y row) (hrow : ∀ r, row = some r → ∃ o : Obj, X.heap[r]? = some o ∧ o.isCells = false) : Boxed Y B t v :=
  h.kept hg fun e => by
    obtain ⟨o, ho, hc⟩ := hrow B e.symm
    rw [show X.heap[B]? = _ from h] at ho
    cases ho; cases hc

theorem fb_own {β : Type} (H n : Nat) (x y c i : β → Int) : Own (fun s W => FB W H n (x s) (y s) (c s) (i s)) := fun s X Y row h hg hrow =>
  ⟨boxed_keep h.b0 hg hrow, boxed_keep h.b1 hg hrow, boxed_keep h.b2 hg hrow, boxed_keep h.b3 hg hrow, boxed_keep h.b4 hg hrow, boxed_keep h.b5 hg hrow⟩

theorem boxed_ne {W : World} {B B' : Nat} {t : TypeId} {v : Value} (h : Boxed W B t v) (u : Value) (hne : B ≠ B') : Boxed (W.setCell ⟨B', 0, none⟩ u) B t v := h.other hne u

theorem FB.setC {W : World} {H n : Nat} {x y c i : Int} (h : FB W H n x y c i) (c' : Int) : FB (W.setCell ⟨H + 1 + 1 + 1, 0, none⟩ (.int .i64 c')) H n x y c' i :=
  ⟨boxed_ne h.b0 _ (by omega), boxed_ne h.b1 _ (by omega), boxed_ne h.b2 _ (by omega), h.b3.set _, boxed_ne h.b4 _ (by omega), boxed_ne h.b5 _ (by omega)⟩
theorem FB.setX {W : World} {H n : Nat} {x y c i : Int} (h : FB W H n x y c i) (x' : Int) : FB (W.setCell ⟨H + 1, 0, none⟩ (.int .i64 x')) H n x' y c i :=
  ⟨boxed_ne h.b0 _ (by omega), h.b1.set _, boxed_ne h.b2 _ (by omega), boxed_ne h.b3 _ (by omega), boxed_ne h.b4 _ (by omega), boxed_ne h.b5 _ (by omega)⟩
theorem FB.setY {W : World} {H n : Nat} {x y c i : Int} (h : FB W H n x y c i) (y' : Int) : FB (W.setCell ⟨H + 1 + 1, 0, none⟩ (.int .i64 y')) H n x y' c i :=
  ⟨boxed_ne h.b0 _ (by omega), boxed_ne h.b1 _ (by omega), h.b2.set _, boxed_ne h.b3 _ (by omega), boxed_ne h.b4 _ (by omega), boxed_ne h.b5 _ (by omega)⟩
theorem FB.setI {W : World} {H n : Nat} {x y c i : Int} (h : FB W H n x y c i) (i' : Int) : FB (W.setCell ⟨H + 1 + 1 + 1 + 1 + 1, 0, none⟩ (.int .i64 i')) H n x y c i' :=
  ⟨boxed_ne h.b0 _ (by omega), boxed_ne h.b1 _ (by omega), boxed_ne h.b2 _ (by omega), boxed_ne h.b3 _ (by omega), boxed_ne h.b4 _ (by omega), h.b5.set _⟩

theorem FB.drew {W : World} {H n : Nat} {x y c i : Int} (h : FB W H n x y c i) : FB W.drew H n x y c i := ⟨h.b0, h.b1, h.b2, h.b3, h.b4, h.b5⟩

theorem below_drewF {B : Nat} {w0 w : World} (h : Below B w0 w) : Below B w0 w.drew := ⟨h.os, h.tape, h.output, h.size, h.block⟩

theorem tot_vals_snoc (pre : List Pc) (x : Pc) : tot (vals (pre ++ [x])) = tot (vals pre) + x.1.size := by simp [vals, tot_append, tot]

set_option maxRecDepth 100000 in
set_option maxHeartbeats 4000000 in
theorem find_any (g n : Nat) (v : Value) (ps : List Pc) (w : World) (hg : g < w.heap.size) (hv : w.cell? ⟨g, 3, none⟩ = some v) (hS : Pcs w.heap.size w v (vals ps)) (ht : tot (vals ps) ≤ 100000000) (hn : n ≤ 100000000) :
    Calls Try.prog 91 #[.pointer (some ⟨g, 0, none⟩), .int .i64 (n : Int)] w fun e W' => e = .returned (.tuple #[.int .i64 ((findP (vals ps) n).1 : Int), .int .i64 ((findP (vals ps) n).2 : Int)]) ∧ Below w.heap.size w W' := by
  have h1 : 1 ≤ 3 := by omega
  have hro : Fence.wide.round = none := rfl
  have h52 : Fence.wide.fn 91 := trivial
  have h60 : Fence.wide.fn 124 := trivial
  have h61 : Fence.wide.fn 125 := trivial
  have h71 : Fence.wide.fn 149 := trivial
  have h72 : Fence.wide.fn 150 := trivial
  have hps : ps.length ≤ 1000000 := by obtain ⟨_, _, _, h, _⟩ := hS; rwa [length_vals] at h
  refine (callsIn_wide (n := 3)).1 ?_
  refine callsIn_of_wp_marks Try.func91 rfl h52 ?_ hro
  simp only [Try.ntmps91, List.size_toArray, List.length_cons, List.length_nil, Nat.reduceAdd, Nat.reduceSub, Array.replicate_succ, Array.replicate_zero, List.push_toArray, List.append_toArray, List.nil_append, List.cons_append]
  gi_wp2_with (first
    | (gi_at_call 124; refine (begins_in (3 - 1) _).mono ?_; rintro e w' ⟨rfl, rfl⟩)
    | (gi_at_call 125; refine (pieces_each (3 - 1) _ _).mono ?_; rintro e w' ⟨rfl, rfl⟩))
  obtain ⟨W0, hW0⟩ : ∃ W0, W0 = (((((((w.alloc (.cells #[.int .i64 (n : Int)] 3)).alloc (.cells #[.int .i64 0] 3)).alloc (.cells #[.int .i64 0] 3)).alloc (.cells #[.int .i64 0] 3)).alloc (.cells #[.func (.func 149) #[] #[.pointer (some ⟨w.heap.size + 1 + 1 + 1, 0, none⟩)]] 119)).alloc (.cells #[.int .i64 0] 3)).alloc (.cells #[.pointer (some ⟨g, 0, none⟩)] 25)) := ⟨_, rfl⟩
  have hsz : W0.heap.size = w.heap.size + 7 := by rw [hW0]; simp
  have hfb : FB W0 w.heap.size n 0 0 0 0 := by
    rw [hW0]
    have n0 := Boxed.new w 3 (.int .i64 (n : Int))
    have n1 := Boxed.new (w.alloc (.cells #[.int .i64 (n : Int)] 3)) 3 (.int .i64 0)
    have n2 := Boxed.new ((w.alloc (.cells #[.int .i64 (n : Int)] 3)).alloc (.cells #[.int .i64 0] 3)) 3 (.int .i64 0)
    have n3 := Boxed.new (((w.alloc (.cells #[.int .i64 (n : Int)] 3)).alloc (.cells #[.int .i64 0] 3)).alloc (.cells #[.int .i64 0] 3)) 3 (.int .i64 0)
    have n4 := Boxed.new ((((w.alloc (.cells #[.int .i64 (n : Int)] 3)).alloc (.cells #[.int .i64 0] 3)).alloc (.cells #[.int .i64 0] 3)).alloc (.cells #[.int .i64 0] 3)) 119 (.func (.func 149) #[] #[.pointer (some ⟨w.heap.size + 1 + 1 + 1, 0, none⟩)])
    have n5 := Boxed.new (((((w.alloc (.cells #[.int .i64 (n : Int)] 3)).alloc (.cells #[.int .i64 0] 3)).alloc (.cells #[.int .i64 0] 3)).alloc (.cells #[.int .i64 0] 3)).alloc (.cells #[.func (.func 149) #[] #[.pointer (some ⟨w.heap.size + 1 + 1 + 1, 0, none⟩)]] 119)) 3 (.int .i64 0)
    simp only [World.size_alloc] at n1 n2 n3 n4 n5
    exact ⟨(((((n0.alloc _).alloc _).alloc _).alloc _).alloc _).alloc _, ((((n1.alloc _).alloc _).alloc _).alloc _).alloc _, (((n2.alloc _).alloc _).alloc _).alloc _, ((n3.alloc _).alloc _).alloc _, (n4.alloc _).alloc _, n5.alloc _⟩
  have hbn : Boxed W0 (w.heap.size + 1 + 1 + 1 + 1 + 1 + 1) 25 (.pointer (some ⟨g, 0, none⟩)) := by
    rw [hW0]
    have n6 := Boxed.new ((((((w.alloc (.cells #[.int .i64 (n : Int)] 3)).alloc (.cells #[.int .i64 0] 3)).alloc (.cells #[.int .i64 0] 3)).alloc (.cells #[.int .i64 0] 3)).alloc (.cells #[.func (.func 149) #[] #[.pointer (some ⟨w.heap.size + 1 + 1 + 1, 0, none⟩)]] 119)).alloc (.cells #[.int .i64 0] 3)) 25 (.pointer (some ⟨g, 0, none⟩))
    simp only [World.size_alloc] at n6
    exact n6
  have hB0 : Below w.heap.size w W0 := by
    rw [hW0]
    exact (((((((Below.refl _ w).alloc (Nat.le_refl _) _).alloc (by simp) _).alloc (by simp; omega) _).alloc (by simp; omega) _).alloc (by simp; omega) _).alloc (by simp; omega) _).alloc (by simp; omega) _
  rw [← hW0]
  clear hW0
  refine wpIn_rangeFunc_ownG hro h1 (gf := 150) (lb := #[.pointer (some ⟨w.heap.size + 1 + 1 + 1 + 1 + 1 + 1, 0, none⟩)]) rfl h72 (enters_of Try.func150 (by kernel_rfl) rfl)
    (pieces_stops (3 - 1) (by omega) (w.heap.size + 1 + 1 + 1 + 1 + 1 + 1) w.heap.size g ps v W0 (by omega) (by omega) (by omega) hbn.cell ((hB0.cell (p := ⟨g, 3, none⟩) hg).trans hv) (hS.below hB0)) belowK_t (belowK_b (by omega)) (Below.refl _ _) (fun _ => rfl)
    (fun pre W => FB W w.heap.size n 0 0 (tot (vals pre)) pre.length ∧ (tot (vals pre) ≤ n) ∧ Below w.heap.size w W)
    (fun cc pre W => FB W w.heap.size n ((findP (vals pre) n).1 : Int) ((findP (vals pre) n).2 : Int) (tot (vals pre)) ((pre.length : Int) - 1) ∧ (cc = .ret ∧ ∃ q x, pre = q ++ [x] ∧ tot (vals q) ≤ n ∧ n - tot (vals q) < x.1.size) ∧ Below w.heap.size w W)
    (OwnFrom.and (Own.from (fb_own w.heap.size n (fun _ => 0) (fun _ => 0) (fun pre : List Pc => (tot (vals pre) : Int)) (fun pre => (pre.length : Int))) _) (OwnFrom.and (ownFrom_pure _ _) (ownFrom_below (Nat.le_refl _) (by omega))))
    (fun cc => OwnFrom.and (Own.from (fb_own w.heap.size n (fun pre : List Pc => ((findP (vals pre) n).1 : Int)) (fun pre => ((findP (vals pre) n).2 : Int)) (fun pre : List Pc => (tot (vals pre) : Int)) (fun pre => (pre.length : Int) - 1)) _) (OwnFrom.and (ownFrom_pure _ _) (ownFrom_below (Nat.le_refl _) (by omega))))
    ⟨by simpa [vals, tot] using hfb, by simp [vals, tot], hB0⟩
    (fun x => { tmps := #[.pointer (some ⟨g, 0, none⟩), .int .i64 (n : Int), undef, .pointer (some ⟨w.heap.size, 0, none⟩), .pointer (some ⟨w.heap.size + 1, 0, none⟩), .pointer (some ⟨w.heap.size + 1 + 1, 0, none⟩), .pointer (some ⟨w.heap.size + 1 + 1 + 1 + 1, 0, none⟩), .pointer (some ⟨w.heap.size + 1 + 1 + 1 + 1 + 1, 0, none⟩), .string x.1, undef, .func (.func 149) #[] #[.pointer (some ⟨w.heap.size + 1 + 1 + 1, 0, none⟩)], .pointer (some ⟨g, 0, none⟩), .func (.func 150) #[] #[.pointer (some ⟨w.heap.size + 1 + 1 + 1 + 1 + 1 + 1, 0, none⟩)], .string x.1, undef, undef, undef, undef, undef, undef, undef, undef, undef, undef, undef, undef, undef, undef], defers := [] }) ?assign ?body ?done ?stop
  case assign =>
    intro l x W K hK
    gi_wp2
    exact hK
  case body =>
    rintro l pre x W ⟨hfb, hle, hB⟩ hlt
    have e0 := hfb.b0.cell
    have e1 := hfb.b1.cell
    have e1f := hfb.b1.frozen
    have e2 := hfb.b2.cell
    have e2f := hfb.b2.frozen
    have e3 := hfb.b3.cell
    have e3f := hfb.b3.frozen
    have e4 := hfb.b4.cell
    have e5 := hfb.b5.cell
    have e5f := hfb.b5.frozen
    have hxs := x.2
    have hpl : pre.length < 1000000 := by omega
    obtain ⟨c, hc⟩ : ∃ c, c = tot (vals pre) := ⟨_, rfl⟩
    rw [← hc] at e3 hle hfb
    obtain ⟨d, hd⟩ : ∃ d, d = n - c := ⟨_, rfl⟩
    have hwr : IntKind.i64.wrap ((n : Int) - (c : Int)) = (d : Int) := by rw [IntKind.wrap_i64]; omega
    have hbg : CallsIn Fence.wide (3 - 1 - 1 - 1) Try.prog 149 #[.string x.1, .pointer (some ⟨w.heap.size + 1 + 1 + 1, 0, none⟩)] W.drew fun e w' => e = .returned (.int .i64 (c : Int)) ∧ w' = W.drew.setCell ⟨w.heap.size + 1 + 1 + 1, 0, none⟩ (.int .i64 ((c : Int) + (x.1.size : Int))) := begin1_in _ _ _ _ _ e3 e3f (by omega)
    have mixed : Try.prog.follows .mixedOrders = true := by kernel_rfl
    obtain ⟨xs, hxs2⟩ : ∃ xs : ByteArray, xs = x.1 := ⟨_, rfl⟩
    rw [← hxs2] at hbg hxs
    simp only [← hxs2]
    have HX := hide hxs2
    have HFB := hide hfb
    have HD := hide hd
    have HCC := hide hc
    have HB := hide hB
    have HLE := hide hle
    clear hxs2 hfb hd hc hB hle hS hv ht
    have HT : Hid (((tot (vals (pre ++ [x])) : Nat) : Int) = (c : Int) + (xs.size : Int)) := by
      show _ = _
      rw [tot_vals_snoc, ← HCC.out, ← HX.out]; push_cast; rfl
    by_cases hlt2 : d < xs.size
    · have HZ : Hid (KeepsFrom W0.heap.size W (((W.setCell ⟨w.heap.size + 1 + 1 + 1, 0, none⟩ (.int .i64 ((c : Int) + (xs.size : Int)))).setCell ⟨w.heap.size + 1, 0, none⟩ (.int .i64 (pre.length : Int))).setCell ⟨w.heap.size + 1 + 1, 0, none⟩ (.int .i64 (d : Int))).drew ∧
          FB (((W.setCell ⟨w.heap.size + 1 + 1 + 1, 0, none⟩ (.int .i64 ((c : Int) + (xs.size : Int)))).setCell ⟨w.heap.size + 1, 0, none⟩ (.int .i64 (pre.length : Int))).setCell ⟨w.heap.size + 1 + 1, 0, none⟩ (.int .i64 (d : Int))).drew w.heap.size n ((findP (vals (pre ++ [x])) n).1 : Int) ((findP (vals (pre ++ [x])) n).2 : Int) (tot (vals (pre ++ [x]))) (((pre ++ [x]).length : Int) - 1) ∧
          (∃ q y, pre ++ [x] = q ++ [y] ∧ tot (vals q) ≤ n ∧ n - tot (vals q) < y.1.size) ∧ Below w.heap.size w (((W.setCell ⟨w.heap.size + 1 + 1 + 1, 0, none⟩ (.int .i64 ((c : Int) + (xs.size : Int)))).setCell ⟨w.heap.size + 1, 0, none⟩ (.int .i64 (pre.length : Int))).setCell ⟨w.heap.size + 1 + 1, 0, none⟩ (.int .i64 (d : Int))).drew) := by
        have hf : findP (vals (pre ++ [x])) n = (pre.length, d) := by
          have e1 : vals (pre ++ [x]) = vals pre ++ x.1 :: [] := by simp [vals]
          rw [e1, findP_at (by rw [← HCC.out]; exact HLE.out) (by rw [← HCC.out, ← HD.out, ← HX.out]; exact hlt2), length_vals, ← HCC.out, ← HD.out]
        refine ⟨((((KeepsOthers.setCell _ _ _).trans (KeepsOthers.setCell _ _ _)).trans (KeepsOthers.setCell _ _ _)).trans (KeepsOthers.drew _)).from _, ?_, ⟨pre, x, rfl, by rw [← HCC.out]; exact HLE.out, by rw [← HCC.out, ← HD.out, ← HX.out]; exact hlt2⟩, below_drewF (((HB.out.setCell (p := ⟨w.heap.size + 1 + 1 + 1, 0, none⟩) (by show w.heap.size ≤ w.heap.size + 1 + 1 + 1; omega) _).setCell (p := ⟨w.heap.size + 1, 0, none⟩) (by show w.heap.size ≤ w.heap.size + 1; omega) _).setCell (p := ⟨w.heap.size + 1 + 1, 0, none⟩) (by show w.heap.size ≤ w.heap.size + 1 + 1; omega) _)⟩
        rw [hf, HT.out, show (((pre ++ [x]).length : Nat) : Int) - 1 = (pre.length : Int) by simp]
        exact (((HFB.out.setC _).setX _).setY _).drew
      have hlt2' : (d : Int) < (xs.size : Int) := by omega
      gi_wp2_with fail
      gi_region_with_o (gi_at_call 149; refine (CallsIn.inRound l hbg).mono ?_; rintro e w' ⟨rfl, rfl⟩)
      all_goals gi_wp2
      all_goals exact ⟨HZ.out.1, HZ.out.2.1, ⟨rfl, HZ.out.2.2.1⟩, HZ.out.2.2.2⟩
    · have HZ : Hid (KeepsFrom W0.heap.size W ((W.setCell ⟨w.heap.size + 1 + 1 + 1, 0, none⟩ (.int .i64 ((c : Int) + (xs.size : Int)))).setCell ⟨w.heap.size + 1 + 1 + 1 + 1 + 1, 0, none⟩ (.int .i64 ((pre.length : Int) + 1))).drew ∧ Below w.heap.size W ((W.setCell ⟨w.heap.size + 1 + 1 + 1, 0, none⟩ (.int .i64 ((c : Int) + (xs.size : Int)))).setCell ⟨w.heap.size + 1 + 1 + 1 + 1 + 1, 0, none⟩ (.int .i64 ((pre.length : Int) + 1))).drew ∧
          FB ((W.setCell ⟨w.heap.size + 1 + 1 + 1, 0, none⟩ (.int .i64 ((c : Int) + (xs.size : Int)))).setCell ⟨w.heap.size + 1 + 1 + 1 + 1 + 1, 0, none⟩ (.int .i64 ((pre.length : Int) + 1))).drew w.heap.size n 0 0 (tot (vals (pre ++ [x]))) ((pre ++ [x]).length : Int) ∧ tot (vals (pre ++ [x])) ≤ n ∧ Below w.heap.size w ((W.setCell ⟨w.heap.size + 1 + 1 + 1, 0, none⟩ (.int .i64 ((c : Int) + (xs.size : Int)))).setCell ⟨w.heap.size + 1 + 1 + 1 + 1 + 1, 0, none⟩ (.int .i64 ((pre.length : Int) + 1))).drew) := by
        have hbz : Below w.heap.size W ((W.setCell ⟨w.heap.size + 1 + 1 + 1, 0, none⟩ (.int .i64 ((c : Int) + (xs.size : Int)))).setCell ⟨w.heap.size + 1 + 1 + 1 + 1 + 1, 0, none⟩ (.int .i64 ((pre.length : Int) + 1))).drew := below_drewF (((Below.refl _ W).setCell (p := ⟨w.heap.size + 1 + 1 + 1, 0, none⟩) (by show w.heap.size ≤ w.heap.size + 1 + 1 + 1; omega) _).setCell (p := ⟨w.heap.size + 1 + 1 + 1 + 1 + 1, 0, none⟩) (by show w.heap.size ≤ w.heap.size + 1 + 1 + 1 + 1 + 1; omega) _)
        refine ⟨(((KeepsOthers.setCell _ _ _).trans (KeepsOthers.setCell _ _ _)).trans (KeepsOthers.drew _)).from _, hbz, ?_, ?_, HB.out.trans hbz⟩
        · rw [HT.out, show (((pre ++ [x]).length : Nat) : Int) = (pre.length : Int) + 1 by simp]
          exact ((HFB.out.setC _).setI _).drew
        · have h5 := HT.out
          have h6 := HD.out
          have h7 := HLE.out
          omega
      have hlt2' : ¬ (d : Int) < (xs.size : Int) := by omega
      gi_wp2_with fail
      gi_region_with_o (gi_at_call 149; refine (CallsIn.inRound l hbg).mono ?_; rintro e w' ⟨rfl, rfl⟩)
      all_goals gi_wp2
      all_goals exact HZ.out
  case done =>
    rintro D ys W hD rfl ⟨hfb, hle, hB⟩ hK
    have e1 := hfb.b1.cell
    have e1f := hfb.b1.frozen
    have e2 := hfb.b2.cell
    have e2f := hfb.b2.frozen
    have e5 := hfb.b5.cell
    gi_wp2
    have hK1 := (KeepsOthers.setCell W ⟨w.heap.size + 1, 0, none⟩ (.int .i64 (ys.length : Int))).same D _ hK rfl
    have hK2 := (KeepsOthers.setCell (W.setCell ⟨w.heap.size + 1, 0, none⟩ (.int .i64 (ys.length : Int))) ⟨w.heap.size + 1 + 1, 0, none⟩ (.int .i64 0)).same D _ hK1 rfl
    have hz := (hfb.setX (ys.length : Int)).setY 0
    refine ⟨by simp, .inl ⟨_, _, rfl, run_takeDeferred hK2, ?_⟩⟩
    have q1 := cell_kept hz.b1.cell (grownBy_putObj' _ D (.deferred none)) (fun r e => by cases e; exact ⟨_, hK2, rfl⟩)
    have q2 := cell_kept hz.b2.cell (grownBy_putObj' _ D (.deferred none)) (fun r e => by cases e; exact ⟨_, hK2, rfl⟩)
    refine ⟨.tuple #[.int .i64 (ys.length : Int), .int .i64 0], ?_, by rw [findP_end hle, length_vals]; rfl, ((hB.setCell (p := ⟨w.heap.size + 1, 0, none⟩) (by show w.heap.size ≤ w.heap.size + 1; omega) _).setCell (p := ⟨w.heap.size + 1 + 1, 0, none⟩) (by show w.heap.size ≤ w.heap.size + 1 + 1; omega) _).trans (belowK_b (w := w) (Nat.le_refl _) _ D _ _ (by omega) hK2 rfl rfl)⟩
    simp [results, Try.f91, go_sem, q1, q2]
  case stop =>
    rintro D cc pre W hD hpre ⟨hfb, ⟨rfl, q, x, rfl, hq1, hq2⟩, hB⟩ hK
    gi_wp2
    refine ⟨by simp, .inl ⟨_, _, rfl, run_takeDeferred hK, ?_⟩⟩
    have q1 := cell_kept hfb.b1.cell (grownBy_putObj' _ D (.deferred none)) (fun r e => by cases e; exact ⟨_, hK, rfl⟩)
    have q2 := cell_kept hfb.b2.cell (grownBy_putObj' _ D (.deferred none)) (fun r e => by cases e; exact ⟨_, hK, rfl⟩)
    have hf : findP (vals ps) n = findP (vals (q ++ [x])) n := by
      obtain ⟨t, rfl⟩ := hpre
      have e1 : vals (q ++ [x]) = vals q ++ x.1 :: [] := by simp [vals]
      have e2 : vals (q ++ [x] ++ t) = vals q ++ x.1 :: vals t := by simp [vals]
      rw [e1, e2, findP_at hq1 hq2, findP_at hq1 hq2]
    refine ⟨_, ?_, by rw [hf], hB.trans (belowK_b (w := w) (Nat.le_refl _) W D _ _ (by omega) hK rfl rfl)⟩
    simp [results, Try.f91, go_sem, q1, q2]

end Go.Proofs.Ytpmijaplkbmbiaa
