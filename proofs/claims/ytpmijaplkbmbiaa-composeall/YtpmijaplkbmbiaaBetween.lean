/- The buffer: the bytes between two places. -/
import Derived.Test.YtpmijaplkbmbiaaBuild
namespace Go.Proofs.Ytpmijaplkbmbiaa
open Go.RowKit Go.By Go.Shelf
set_option linter.unusedVariables false
attribute [local go_sem] Oper.semAt_some

/-- The bytes of pieces, one behind the other. -/
def text : List ByteArray → List UInt8
  | [] => []
  | p :: ps => p.data.toList ++ text ps

theorem text_append (a b : List ByteArray) : text (a ++ b) = text a ++ text b := by
  induction a with
  | nil => rfl
  | cons p a ih => simp [text, ih]

theorem length_text (ps : List ByteArray) : (text ps).length = tot ps := by
  induction ps with
  | nil => rfl
  | cons p ps ih =>
    simp only [text, tot, List.length_append, ih, Array.length_toList]
    rfl

def cut (l : List UInt8) (f t : Nat) : List UInt8 := (l.take t).drop f

theorem cut_snoc (a p : List UInt8) (f t : Nat) (h : a.length ≤ t) : cut (a ++ p) f t = cut a f t ++ (p.take (t - a.length)).drop (f - a.length) := by
  simp only [cut, List.take_append, List.drop_append, List.length_take]
  rw [List.take_of_length_le h]
  congr 2
  omega

theorem cut_past (a p : List UInt8) (f t : Nat) (h : t ≤ a.length) : cut (a ++ p) f t = cut a f t := by
  simp only [cut]
  rw [List.take_append_of_le_length h]

/-- The variables of between, in their boxes. -/
structure BB (W : World) (H hb hf f t : Nat) (c : Int) (l : List UInt8) : Prop where
  b0 : Boxed W H 3 (.int .i64 (f : Int))
  b1 : Boxed W (H + 1) 3 (.int .i64 (t : Int))
  b2 : Lib.IsBuilderF 140 5 (H + 1 + 1) (H + 1 + 1) (Lib.byteCells l) W
  b3 : Boxed W hb 3 (.int .i64 c)
  b4 : Boxed W hf 119 (.func (.func 149) #[] #[.pointer (some ⟨hb, 0, none⟩)])

theorem isBuilderF_keep {X Y : World} {row : Option Nat} {T e : TypeId} {B b : Nat} {bs : List Value} (h : Lib.IsBuilderF T e B b bs X) (hg : X.grownBy Y row) (hrow : ∀ r, row = some r → ∃ o : Obj, X.heap[r]? = some o ∧ o.isCells = false) : Lib.IsBuilderF T e B b bs Y := by
  have hk : ∀ k c t fz, X.heap[k]? = some (Obj.cells c t fz) → Y.heap[k]? = some (Obj.cells c t fz) := fun k c t fz hk => by
    rw [hg.block k (lt_of_heap hk) (fun e => by
      obtain ⟨o, ho, hc⟩ := hrow k e.symm
      rw [hk] at ho; cases ho; cases hc), hk]
  have one : ∀ p, Lib.BuilderAtF T e B b p bs X → Lib.BuilderAtF T e B b p bs Y := fun p ⟨hB, v, hbk, hown, hne⟩ => by
    refine ⟨hB, v, hk _ _ _ _ hbk, ⟨hown.1, hown.2.elim .inl fun ⟨g, cap, cur, fz, hv, h1, h2, r⟩ => .inr ⟨g, cap, cur, fz, hv, h1, hk _ _ _ _ h2, r⟩⟩, hne⟩
  exact h.elim (fun h => .inl (one _ h)) fun h => .inr (one _ h)

theorem bb_own {β : Type} (H hb hf f t : Nat) (c : β → Int) (l : β → List UInt8) : Own (fun s W => BB W H hb hf f t (c s) (l s)) := fun s X Y row h hg hrow =>
  ⟨boxed_keep h.b0 hg hrow, boxed_keep h.b1 hg hrow, isBuilderF_keep h.b2 hg hrow, boxed_keep h.b3 hg hrow, boxed_keep h.b4 hg hrow⟩

/-- A store into the count's box leaves the builder. -/
theorem isBuilderF_set {X : World} {T e : TypeId} {B b : Nat} {bs : List Value} {hb : Nat} {u u' : Value} {t : TypeId} (h : Lib.IsBuilderF T e B b bs X) (hx : Boxed X hb t u) (h1 : t ≠ T) (h2 : t ≠ e) : Lib.IsBuilderF T e B b bs (X.setCell ⟨hb, 0, none⟩ u') := by
  have hk : ∀ k c t' fz, X.heap[k]? = some (Obj.cells c t' fz) → t' ≠ t → (X.setCell ⟨hb, 0, none⟩ u').heap[k]? = some (Obj.cells c t' fz) := fun k c t' fz hk hne => by
    rw [heap_setCell_ne _ (fun e => by rw [e, show X.heap[hb]? = _ from hx] at hk; cases hk; exact hne rfl), hk]
  have one : ∀ p, Lib.BuilderAtF T e B b p bs X → Lib.BuilderAtF T e B b p bs (X.setCell ⟨hb, 0, none⟩ u') := fun p ⟨hB, v, hbk, hown, hne⟩ => by
    refine ⟨hB, v, hk _ _ _ _ hbk (Ne.symm h1), ⟨hown.1, hown.2.elim .inl fun ⟨g, cap, cur, fz, hv, k1, k2, r⟩ => .inr ⟨g, cap, cur, fz, hv, k1, hk _ _ _ _ k2 (Ne.symm h2), r⟩⟩, hne⟩
  exact h.elim (fun h => .inl (one _ h)) fun h => .inr (one _ h)

theorem BB.setC {W : World} {H hb hf f t : Nat} {c : Int} {l : List UInt8} (h : BB W H hb hf f t c l) (h1 : hb ≠ H) (h2 : hb ≠ H + 1) (h3 : hb ≠ hf) (c' : Int) : BB (W.setCell ⟨hb, 0, none⟩ (.int .i64 c')) H hb hf f t c' l :=
  ⟨boxed_ne h.b0 _ (Ne.symm h1), boxed_ne h.b1 _ (Ne.symm h2), isBuilderF_set h.b2 h.b3 (by decide) (by decide), h.b3.set _, boxed_ne h.b4 _ (Ne.symm h3)⟩

theorem boxed_others {W W' : World} {B : Nat} {t e : TypeId} {v : Value} {b : Nat} (h : Boxed W B t v) (ho : Lib.OthersKept e (some b) W W') (hne : B ≠ b) (hte : t ≠ e) : Boxed W' B t v :=
  ho B _ h (fun e' => hne (by cases e'; rfl)) (fun c fz e' => by cases e'; exact hte rfl)

theorem BB.wrote {W W' : World} {H hb hf f t : Nat} {c : Int} {l l' : List UInt8} (h : BB W H hb hf f t c l) (h1 : hb ≠ H + 1 + 1) (h2 : hf ≠ H + 1 + 1) (hn : Lib.IsBuilderF 140 5 (H + 1 + 1) (H + 1 + 1) (Lib.byteCells l') W') (ho : Lib.OthersKept 5 (some (H + 1 + 1)) W W') : BB W' H hb hf f t c l' :=
  ⟨boxed_others h.b0 ho (by omega) (by decide), boxed_others h.b1 ho (by omega) (by decide), hn, boxed_others h.b3 ho h1 (by decide), boxed_others h.b4 ho h2 (by decide)⟩

theorem keepsFrom_others {W W' : World} {B b : Nat} {e : TypeId} {c : Array Value} {t : TypeId} {fz : Nat × Nat} (hs : W.heap.size ≤ W'.heap.size) (ho : Lib.OthersKept e (some b) W W') (hb : W.heap[b]? = some (.cells c t fz)) : KeepsFrom B W W' :=
  ⟨hs, fun k o _ hk hc => ho k o hk (fun e' => by cases e'; rw [hb] at hk; cases hk; cases hc) (fun c' fz' e' => by rw [e'] at hc; cases hc)⟩

theorem extract_list (xs : ByteArray) (a b : Nat) : (xs.extract a (min b xs.size)).data.toList = (xs.data.toList.take b).drop a := by
  rw [ByteArray.data_extract, Array.toList_extract, List.extract_eq_take_drop]
  rw [List.drop_take]
  apply List.ext_getElem?
  intro i
  simp only [List.getElem?_take, List.getElem?_drop]
  have hs : xs.data.toList.length = xs.size := rfl
  by_cases h1 : i < min b xs.size - a
  · rw [if_pos h1, if_pos (by omega)]
  · rw [if_neg h1]
    by_cases h2 : i < b - a
    · rw [if_pos h2, List.getElem?_eq_none (by omega)]
    · rw [if_neg h2]

theorem text_vals_snoc (pre : List Pc) (x : Pc) : text (vals (pre ++ [x])) = text (vals pre) ++ x.1.data.toList := by
  have : vals (pre ++ [x]) = vals pre ++ [x.1] := by simp [vals]
  rw [this, text_append]; simp [text]

theorem BB.drew {W : World} {H hb hf f t : Nat} {c : Int} {l : List UInt8} (h : BB W H hb hf f t c l) : BB W.drew H hb hf f t c l := ⟨h.b0, h.b1, h.b2, h.b3, h.b4⟩

set_option maxRecDepth 100000 in
set_option maxHeartbeats 4000000 in
theorem between_any (g f t : Nat) (v : Value) (ps : List Pc) (w : World) (hg : g < w.heap.size) (hv : w.cell? ⟨g, 3, none⟩ = some v) (hS : Pcs w.heap.size w v (vals ps)) (ht : tot (vals ps) ≤ 100000000) (hft : f ≤ t) (htt : t ≤ 100000000) :
    Calls Try.prog 90 #[.pointer (some ⟨g, 0, none⟩), .int .i64 (f : Int), .int .i64 (t : Int)] w fun e W' => e = .returned (.string ⟨(cut (text (vals ps)) f t).toArray⟩) ∧ Below w.heap.size w W' := by
  have h1 : 1 ≤ 3 := by omega
  have hro : Fence.wide.round = none := rfl
  have h51 : Fence.wide.fn 90 := trivial
  have h59 : Fence.wide.fn 109 := trivial
  have h60 : Fence.wide.fn 124 := trivial
  have h61 : Fence.wide.fn 125 := trivial
  have h62 : Fence.wide.fn 111 := trivial
  have h63 : Fence.wide.fn 112 := trivial
  have h71 : Fence.wide.fn 149 := trivial
  have h72 : Fence.wide.fn 150 := trivial
  have hps : ps.length ≤ 1000000 := by obtain ⟨_, _, _, h, _⟩ := hS; rwa [length_vals] at h
  have hwr2 : (t : Int) - (f : Int) = ((t - f : Nat) : Int) := by omega
  refine (callsIn_wide (n := 3)).1 ?_
  refine callsIn_of_wp_marks Try.func90 rfl h51 ?_ hro
  simp only [Try.ntmps90, List.size_toArray, List.length_cons, List.length_nil, Nat.reduceAdd, Nat.reduceSub, Array.replicate_succ, Array.replicate_zero, List.push_toArray, List.append_toArray, List.nil_append, List.cons_append]
  gi_wp2_with fail
  have q0 := Boxed.new w 3 (.int .i64 (f : Int))
  have q1 := Boxed.new (w.alloc (.cells #[.int .i64 (f : Int)] 3)) 3 (.int .i64 (t : Int))
  have q2 := World.alloc_heap_new ((w.alloc (.cells #[.int .i64 (f : Int)] 3)).alloc (.cells #[.int .i64 (t : Int)] 3)) (.cells #[.pointer none, .slice none 0 0] 140)
  simp only [World.size_alloc] at q1 q2
  have hBz : Below w.heap.size w (((w.alloc (.cells #[.int .i64 (f : Int)] 3)).alloc (.cells #[.int .i64 (t : Int)] 3)).alloc (.cells #[.pointer none, .slice none 0 0] 140)) := (((Below.refl _ w).alloc (Nat.le_refl _) _).alloc (by simp) _).alloc (by simp; omega) _
  have hsz2 : (((w.alloc (.cells #[.int .i64 (f : Int)] 3)).alloc (.cells #[.int .i64 (t : Int)] 3)).alloc (.cells #[.pointer none, .slice none 0 0] 140)).heap.size = w.heap.size + 1 + 1 + 1 := by simp
  refine (callsIn_wide.2 (Try.Builder_Grow_fresh (w.heap.size + 1 + 1) (w.heap.size + 1 + 1) (t - f) _ (Nat.le_refl _) q2 (by rw [hsz2]; omega) (by omega))).mono ?_
  rintro e w3 ⟨rfl, hbd, hb3⟩
  have r0 : Boxed w3 w.heap.size 3 (.int .i64 (f : Int)) := (hb3.block _ (by omega)).trans ((q0.alloc _).alloc _)
  have r1 : Boxed w3 (w.heap.size + 1) 3 (.int .i64 (t : Int)) := (hb3.block _ (by omega)).trans (q1.alloc _)
  have r2 : Lib.IsBuilderF 140 5 (w.heap.size + 1 + 1) (w.heap.size + 1 + 1) (Lib.byteCells []) w3 := .inr (Lib.BuilderAtF.of hbd)
  have hBw : Below w.heap.size w w3 := hBz.trans (hb3.mono (by omega))
  have hsz3 : w.heap.size + 1 + 1 + 1 ≤ w3.heap.size := by have := hb3.size; rw [hsz2] at this; exact this
  generalize (((w.alloc (.cells #[.int .i64 (f : Int)] 3)).alloc (.cells #[.int .i64 (t : Int)] 3)).alloc (.cells #[.pointer none, .slice none 0 0] 140)) = wx at hbd hb3
  clear q0 q1 q2 hBz hsz2 hbd hb3
  gi_wp2_with (first
    | (gi_at_call 124; refine (begins_in (3 - 1) _).mono ?_; rintro e w' ⟨rfl, rfl⟩)
    | (gi_at_call 125; refine (pieces_each (3 - 1) _ _).mono ?_; rintro e w' ⟨rfl, rfl⟩))
  obtain ⟨W0, hW0⟩ : ∃ W0, W0 = (((w3.alloc (.cells #[.int .i64 0] 3)).alloc (.cells #[.func (.func 149) #[] #[.pointer (some ⟨w3.heap.size, 0, none⟩)]] 119)).alloc (.cells #[.pointer (some ⟨g, 0, none⟩)] 25)) := ⟨_, rfl⟩
  have hsz : W0.heap.size = w3.heap.size + 3 := by rw [hW0]; simp
  have n3 := Boxed.new w3 3 (.int .i64 0)
  have n4 := Boxed.new (w3.alloc (.cells #[.int .i64 0] 3)) 119 (.func (.func 149) #[] #[.pointer (some ⟨w3.heap.size, 0, none⟩)])
  have n5 := Boxed.new ((w3.alloc (.cells #[.int .i64 0] 3)).alloc (.cells #[.func (.func 149) #[] #[.pointer (some ⟨w3.heap.size, 0, none⟩)]] 119)) 25 (.pointer (some ⟨g, 0, none⟩))
  simp only [World.size_alloc] at n4 n5
  have hbb : BB W0 w.heap.size w3.heap.size (w3.heap.size + 1) f t 0 [] := by
    rw [hW0]
    refine ⟨((r0.alloc _).alloc _).alloc _, ((r1.alloc _).alloc _).alloc _, ?_, (n3.alloc _).alloc _, n4.alloc _⟩
    exact isBuilderF_keep (isBuilderF_keep (isBuilderF_keep r2 (World.grownBy_alloc w3 _ none) (fun r e => by cases e)) (World.grownBy_alloc _ _ none) (fun r e => by cases e)) (World.grownBy_alloc _ _ none) (fun r e => by cases e)
  have hbn : Boxed W0 (w3.heap.size + 1 + 1) 25 (.pointer (some ⟨g, 0, none⟩)) := by rw [hW0]; exact n5
  have hB0 : Below w.heap.size w W0 := by
    rw [hW0]
    exact ((hBw.alloc (by omega) _).alloc (by simp; omega) _).alloc (by simp; omega) _
  rw [← hW0]
  clear hW0 n3 n4 n5 r0 r1 r2
  generalize w3.heap.size = hb at hsz hsz3 hbb hbn ⊢
  refine wpIn_rangeFunc_ownG hro h1 (gf := 150) (lb := #[.pointer (some ⟨hb + 1 + 1, 0, none⟩)]) rfl h72 (enters_of Try.func150 (by kernel_rfl) rfl)
    (pieces_stops (3 - 1) (by omega) (hb + 1 + 1) w.heap.size g ps v W0 (by omega) (by omega) (by omega) hbn.cell ((hB0.cell (p := ⟨g, 3, none⟩) hg).trans hv) (hS.below hB0)) belowK_t (belowK_b (by omega)) (Below.refl _ _) (fun _ => rfl)
    (fun pre W => BB W w.heap.size hb (hb + 1) f t (tot (vals pre)) (cut (text (vals pre)) f t) ∧ (tot (vals pre) ≤ 100000000 + pre.length * 100000000) ∧ Below w.heap.size w W)
    (fun cc pre W => BB W w.heap.size hb (hb + 1) f t (tot (vals pre)) (cut (text (vals pre)) f t) ∧ (cc = .exit 0 ∧ t ≤ tot (vals pre)) ∧ Below w.heap.size w W)
    (OwnFrom.and (Own.from (bb_own w.heap.size hb (hb + 1) f t (fun pre : List Pc => (tot (vals pre) : Int)) (fun pre => cut (text (vals pre)) f t)) _) (OwnFrom.and (ownFrom_pure _ _) (ownFrom_below (Nat.le_refl _) (by omega))))
    (fun cc => OwnFrom.and (Own.from (bb_own w.heap.size hb (hb + 1) f t (fun pre : List Pc => (tot (vals pre) : Int)) (fun pre => cut (text (vals pre)) f t)) _) (OwnFrom.and (ownFrom_pure _ _) (ownFrom_below (Nat.le_refl _) (by omega))))
    ⟨by simpa [vals, tot, text, cut] using hbb, by simp [vals, tot], hB0⟩
    (fun x => { tmps := #[.pointer (some ⟨g, 0, none⟩), .int .i64 (f : Int), .int .i64 (t : Int), undef, .pointer (some ⟨w.heap.size, 0, none⟩), .pointer (some ⟨w.heap.size + 1, 0, none⟩), .string ⟨#[]⟩, .pointer (some ⟨w.heap.size + 1 + 1, 0, none⟩), .pointer (some ⟨hb + 1, 0, none⟩), .string x.1, undef, .int .i64 (t : Int), .int .i64 (f : Int), .int .i64 ((t - f : Nat) : Int), .tuple #[], .func (.func 149) #[] #[.pointer (some ⟨hb, 0, none⟩)], .pointer (some ⟨g, 0, none⟩), .func (.func 150) #[] #[.pointer (some ⟨hb + 1 + 1, 0, none⟩)], .string x.1, undef, undef, undef, undef, undef, undef, undef, undef, undef, undef, undef, undef, undef, undef, undef, undef, undef, undef, undef, undef, undef, undef, undef, undef, undef, undef], defers := [] }) ?assign ?body ?done ?stop
  case assign =>
    intro l x W K hK
    gi_wp2
    exact hK
  case body =>
    rintro l pre x W ⟨hbb, hle, hB⟩ hlt
    have e0 := hbb.b0.cell
    have e1 := hbb.b1.cell
    have e3 := hbb.b3.cell
    have e3f := hbb.b3.frozen
    have e4 := hbb.b4.cell
    have hxs := x.2
    have hpl : pre.length < 1000000 := by omega
    have hbc := hbb.setC (by omega) (by omega) (by omega) (((tot (vals pre) : Nat) : Int) + (x.1.size : Int))
    have hbz : Below w.heap.size W (W.setCell ⟨hb, 0, none⟩ (.int .i64 (((tot (vals pre) : Nat) : Int) + (x.1.size : Int)))) := (Below.refl _ W).setCell (p := ⟨hb, 0, none⟩) (by show w.heap.size ≤ hb; omega) _
    have ecast : (((tot (vals (pre ++ [x])) : Nat) : Nat) : Int) = ((tot (vals pre) : Nat) : Int) + (x.1.size : Int) := by rw [tot_vals_snoc]; push_cast; rfl
    have hlt2 : (text (vals pre)).length = tot (vals pre) := length_text _
    have etext := text_vals_snoc pre x
    have hxl : x.1.data.toList.length = x.1.size := rfl
    have hbg : CallsIn Fence.wide (3 - 1 - 1 - 1) Try.prog 149 #[.string x.1, .pointer (some ⟨hb, 0, none⟩)] W fun e w' => e = .returned (.int .i64 ((tot (vals pre) : Nat) : Int)) ∧ w' = W.setCell ⟨hb, 0, none⟩ (.int .i64 (((tot (vals pre) : Nat) : Int) + (x.1.size : Int))) := begin1_in _ _ _ _ _ e3 e3f (by omega)
    have HET := hide etext
    have HEC := hide ecast
    have HL2 := hide hlt2
    have HLE := hide hle
    clear etext ecast hlt2 hle
    generalize tot (vals pre) = c at e3 hbc hbz hbg HEC HL2 HLE
    generalize hxe : x.1 = xs at hxs hbc hbz hbg HET HEC hxl ⊢
    generalize hW1 : W.setCell ⟨hb, 0, none⟩ (.int .i64 ((c : Int) + (xs.size : Int))) = W1 at hbc hbz hbg
    have f0 := hbc.b0.cell
    have f1 := hbc.b1.cell
    have HBC := hide hbc
    have HBZ := hide hbz
    have HB := hide hB
    have HKO : Hid (KeepsOthers W W1) := hide (by rw [← hW1]; exact KeepsOthers.setCell _ _ _)
    clear hxe hW1 hbc hbz hB hbb hS hv ht
    by_cases hge : t ≤ c
    · have hge' : (t : Int) ≤ (c : Int) := by omega
      gi_wp2_with (gi_at_call 149; refine (CallsIn.inRound l hbg).mono ?_; rintro e w' ⟨rfl, rfl⟩)
      refine ⟨HKO.out.from _, ?_, ⟨rfl, by have := HEC.out; omega⟩, HB.out.trans HBZ.out⟩
      rw [HEC.out, HET.out, cut_past _ _ _ _ (by rw [HL2.out]; exact hge)]
      exact HBC.out
    · have hge' : ¬ (t : Int) ≤ (c : Int) := by omega
      have HCUT : Hid (cut (text (vals (pre ++ [x]))) f t = cut (text (vals pre)) f t ++ (xs.data.toList.take (t - c)).drop (f - c)) := hide (by rw [HET.out, cut_snoc _ _ _ _ (by rw [HL2.out]; omega), HL2.out])
      by_cases hout : c + xs.size ≤ f
      · have hout' : ¬ (f : Int) < (c : Int) + (xs.size : Int) := by omega
        gi_wp2_with (gi_at_call 149; refine (CallsIn.inRound l hbg).mono ?_; rintro e w' ⟨rfl, rfl⟩)
        refine ⟨HKO.out.from _, HBZ.out, ?_, by have := HEC.out; have := HLE.out; simp; omega, HB.out.trans HBZ.out⟩
        rw [HEC.out, HCUT.out, List.drop_eq_nil_of_le (by rw [List.length_take, hxl]; omega), List.append_nil]
        exact HBC.out
      · have hout' : (f : Int) < (c : Int) + (xs.size : Int) := by omega
        gi_wp2_with (gi_at_call 149; refine (CallsIn.inRound l hbg).mono ?_; rintro e w' ⟨rfl, rfl⟩)
        have hex : (xs.extract (max ((f : Int) - (c : Int)) 0).toNat (min ((t : Int) - (c : Int)) (xs.size : Int)).toNat).data.toList = (xs.data.toList.take (t - c)).drop (f - c) := by
          rw [show (max ((f : Int) - (c : Int)) 0).toNat = f - c by omega, show (min ((t : Int) - (c : Int)) (xs.size : Int)).toNat = min (t - c) xs.size by omega]
          exact extract_list xs _ _
        have hexs : (xs.extract (max ((f : Int) - (c : Int)) 0).toNat (min ((t : Int) - (c : Int)) (xs.size : Int)).toNat).size ≤ xs.size := by
          rw [show ∀ b : ByteArray, b.size = b.data.toList.length from fun _ => rfl, hex, List.length_drop, List.length_take]; omega
        generalize xs.extract (max ((f : Int) - (c : Int)) 0).toNat (min ((t : Int) - (c : Int)) (xs.size : Int)).toNat = ys at hex hexs ⊢
        have hlc : (Lib.byteCells (cut (text (vals pre)) f t)).length ≤ t := by
          rw [Lib.byteCells_length]; simp only [cut, List.length_drop, List.length_take]; omega
        obtain ⟨b0, bv, hbk⟩ : ∃ b0 bv, w'.heap[w.heap.size + 1 + 1]? = some (.cells #[b0, bv] 140 (0, 0)) := by
          rcases HBC.out.b2 with ⟨_, v, h, _⟩ | ⟨_, v, h, _⟩
          · exact ⟨_, _, h⟩
          · exact ⟨_, _, h⟩
        refine (CallsIn.inRound l (callsIn_wide.2 (writeString (w.heap.size + 1 + 1) (w.heap.size + 1 + 1) _ ys w' HBC.out.b2 (by omega) (by have := lt_of_heap hbk; omega)))).mono ?_
        rintro e w9 ⟨rfl, hbd, hb9, ho9⟩
        gi_wp2
        have hcells : Lib.byteCells (cut (text (vals pre)) f t) ++ Lib.strCells ys = Lib.byteCells (cut (text (vals (pre ++ [x]))) f t) := by
          rw [HCUT.out, ← hex]; simp [Lib.byteCells, Lib.strCells]
        rw [hcells] at hbd
        have hb10 := hb9.mono (show w.heap.size ≤ w.heap.size + 1 + 1 by omega)
        refine ⟨(HKO.out.from _).trans (keepsFrom_others hb9.size ho9 hbk), HBZ.out.trans hb10, ?_, by have := HEC.out; have := HLE.out; simp; omega, (HB.out.trans HBZ.out).trans hb10⟩
        rw [HEC.out]
        exact HBC.out.wrote (by omega) (by omega) (.inr hbd) ho9
  case done =>
    rintro D ys W hD rfl ⟨hbb, _, hB⟩ hK
    obtain ⟨b0, bv, hbk⟩ : ∃ b0 bv, W.heap[w.heap.size + 1 + 1]? = some (.cells #[b0, bv] 140 (0, 0)) := by
      rcases hbb.b2 with ⟨_, v, h, _⟩ | ⟨_, v, h, _⟩
      · exact ⟨_, _, h⟩
      · exact ⟨_, _, h⟩
    gi_wp2_with (gi_at_call 112; refine (callsIn_wide.2 (Try.Builder_String_any_k (w.heap.size + 1 + 1) (w.heap.size + 1 + 1) _ W hbb.b2 (by have := lt_of_heap hbk; omega))).mono ?_; rintro e w9 ⟨rfl, _, hb9, ho9⟩)
    have hK2 : w9.heap[D]? = some (.deferred (some [])) := ho9 D _ hK (fun e => by cases e; rw [hbk] at hK; cases hK) (fun c fz e => by cases e)
    refine ⟨by simp, .inl ⟨_, _, rfl, run_takeDeferred hK2, ?_⟩⟩
    exact ⟨_, results_tmp rfl _ _ _, rfl, (hB.trans (hb9.mono (by omega))).trans (belowK_b (w := w) (Nat.le_refl _) w9 D _ _ (by omega) hK2 rfl rfl)⟩
  case stop =>
    rintro D cc pre W hD hpre ⟨hbb, ⟨rfl, hge⟩, hB⟩ hK
    obtain ⟨b0, bv, hbk⟩ : ∃ b0 bv, W.heap[w.heap.size + 1 + 1]? = some (.cells #[b0, bv] 140 (0, 0)) := by
      rcases hbb.b2 with ⟨_, v, h, _⟩ | ⟨_, v, h, _⟩
      · exact ⟨_, _, h⟩
      · exact ⟨_, _, h⟩
    have hcut : cut (text (vals ps)) f t = cut (text (vals pre)) f t := by
      obtain ⟨q, rfl⟩ := hpre
      have e2 : vals (pre ++ q) = vals pre ++ vals q := by simp [vals]
      rw [e2, text_append, cut_past _ _ _ _ (by rw [length_text]; exact hge)]
    gi_wp2_with (gi_at_call 112; refine (callsIn_wide.2 (Try.Builder_String_any_k (w.heap.size + 1 + 1) (w.heap.size + 1 + 1) _ W hbb.b2 (by have := lt_of_heap hbk; omega))).mono ?_; rintro e w9 ⟨rfl, _, hb9, ho9⟩)
    have hK2 : w9.heap[D]? = some (.deferred (some [])) := ho9 D _ hK (fun e => by cases e; rw [hbk] at hK; cases hK) (fun c fz e => by cases e)
    refine ⟨by simp, .inl ⟨_, _, rfl, run_takeDeferred hK2, ?_⟩⟩
    exact ⟨_, results_tmp rfl _ _ _, by rw [hcut]; rfl, (hB.trans (hb9.mono (by omega))).trans (belowK_b (w := w) (Nat.le_refl _) w9 D _ _ (by omega) hK2 rfl rfl)⟩

end Go.Proofs.Ytpmijaplkbmbiaa
