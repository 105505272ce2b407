/- The buffer that is nil: its text. -/
import Derived.Test.YtpmijaplkbmbiaaBuf2
namespace Go.Proofs.Ytpmijaplkbmbiaa
open Go.RowKit Go.By Go.Shelf
set_option linter.unusedVariables false
attribute [local go_sem] Oper.semAt_some

set_option maxRecDepth 100000 in
set_option maxHeartbeats 2000000 in
theorem pieces1_nil (n : Nat) (l Bn : Nat) (J Jx : List Pc → World → Prop) (W : World) (hc : W.cell? ⟨Bn, 0, none⟩ = some (.pointer none)) (h0 : J [] W) :
    CallsIn Fence.wide n Try.prog 150 #[.func (.yield l) #[] #[], .pointer (some ⟨Bn, 0, none⟩)] W fun e W' => (∃ v, e = .returned v) ∧
      ((∃ zs, zs = [] ∧ J zs W') ∨ (∃ pre, pre <+: [] ∧ Jx pre W')) := by
  refine callsIn_of_wp Try.func150 rfl trivial ?_ rfl
  simp only [Try.ntmps150, List.size_toArray, List.length_cons, List.length_nil, Nat.reduceAdd, Nat.reduceSub, Array.replicate_succ, Array.replicate_zero, List.push_toArray, List.append_toArray, List.nil_append, List.cons_append]
  gi_wp2
  refine bodyPost_ret (results_none rfl _ _ _) rfl ?_
  exact ⟨⟨_, rfl⟩, .inl ⟨_, rfl, h0⟩⟩

theorem pieces_stops_nil (n : Nat) (Bn n₀ : Nat) (w : World) (hBn : Bn < w.heap.size) (hc : w.cell? ⟨Bn, 0, none⟩ = some (.pointer none)) :
    SeqStopsK Fence.wide n Try.prog 150 #[.pointer (some ⟨Bn, 0, none⟩)] (fun x : Pc => #[Value.string x.1]) (Below n₀) (fun zs => zs = []) (fun pre => pre <+: []) 0 w := fun l J Jx W hW hJ _ hY h0 =>
  pieces1_nil n l Bn J Jx W ((hW.cell (p := ⟨Bn, 0, none⟩) hBn).trans hc) h0

set_option maxRecDepth 100000 in
set_option maxHeartbeats 4000000 in
theorem between_nil (w : World) :
    Calls Try.prog 90 #[.pointer none, .int .i64 0, .int .i64 0] w fun e W' => e = .returned (.string ⟨#[]⟩) ∧ Below w.heap.size w W' := by
  have h1 : 1 ≤ 3 := by omega
  have hro : Fence.wide.round = none := rfl
  have h51 : Fence.wide.fn 90 := trivial
  have h59 : Fence.wide.fn 109 := trivial
  have h60 : Fence.wide.fn 124 := trivial
  have h61 : Fence.wide.fn 125 := trivial
  have h62 : Fence.wide.fn 111 := trivial
  have h63 : Fence.wide.fn 112 := trivial
  have h71 : Fence.wide.fn 149 := trivial
  have h72 : Fence.wide.fn 150 := trivial
  refine (callsIn_wide (n := 3)).1 ?_
  refine callsIn_of_wp_marks Try.func90 rfl h51 ?_ hro
  simp only [Try.ntmps90, List.size_toArray, List.length_cons, List.length_nil, Nat.reduceAdd, Nat.reduceSub, Array.replicate_succ, Array.replicate_zero, List.push_toArray, List.append_toArray, List.nil_append, List.cons_append]
  gi_wp2_with fail
  have q0 := Boxed.new w 3 (.int .i64 0)
  have q1 := Boxed.new (w.alloc (.cells #[.int .i64 0] 3)) 3 (.int .i64 0)
  have q2 := World.alloc_heap_new ((w.alloc (.cells #[.int .i64 0] 3)).alloc (.cells #[.int .i64 0] 3)) (.cells #[.pointer none, .slice none 0 0] 140)
  simp only [World.size_alloc] at q1 q2
  have hBz : Below w.heap.size w (((w.alloc (.cells #[.int .i64 0] 3)).alloc (.cells #[.int .i64 0] 3)).alloc (.cells #[.pointer none, .slice none 0 0] 140)) := (((Below.refl _ w).alloc (Nat.le_refl _) _).alloc (by simp) _).alloc (by simp; omega) _
  have hsz2 : (((w.alloc (.cells #[.int .i64 0] 3)).alloc (.cells #[.int .i64 0] 3)).alloc (.cells #[.pointer none, .slice none 0 0] 140)).heap.size = w.heap.size + 1 + 1 + 1 := by simp
  refine (callsIn_wide.2 (Try.Builder_Grow_fresh (w.heap.size + 1 + 1) (w.heap.size + 1 + 1) 0 _ (Nat.le_refl _) q2 (by rw [hsz2]; omega) (by omega))).mono ?_
  rintro e w3 ⟨rfl, hbd, hb3⟩
  have r0 : Boxed w3 w.heap.size 3 (.int .i64 0) := (hb3.block _ (by omega)).trans ((q0.alloc _).alloc _)
  have r1 : Boxed w3 (w.heap.size + 1) 3 (.int .i64 0) := (hb3.block _ (by omega)).trans (q1.alloc _)
  have r2 : Lib.IsBuilderF 140 5 (w.heap.size + 1 + 1) (w.heap.size + 1 + 1) (Lib.byteCells []) w3 := .inr (Lib.BuilderAtF.of hbd)
  have hBw : Below w.heap.size w w3 := hBz.trans (hb3.mono (by omega))
  have hsz3 : w.heap.size + 1 + 1 + 1 ≤ w3.heap.size := by have := hb3.size; rw [hsz2] at this; exact this
  generalize (((w.alloc (.cells #[.int .i64 0] 3)).alloc (.cells #[.int .i64 0] 3)).alloc (.cells #[.pointer none, .slice none 0 0] 140)) = wx at hbd hb3
  clear q0 q1 q2 hBz hsz2 hbd hb3
  gi_wp2_with (first
    | (gi_at_call 124; refine (begins_in (3 - 1) _).mono ?_; rintro e w' ⟨rfl, rfl⟩)
    | (gi_at_call 125; refine (pieces_each (3 - 1) _ _).mono ?_; rintro e w' ⟨rfl, rfl⟩))
  obtain ⟨W0, hW0⟩ : ∃ W0, W0 = (((w3.alloc (.cells #[.int .i64 0] 3)).alloc (.cells #[.func (.func 149) #[] #[.pointer (some ⟨w3.heap.size, 0, none⟩)]] 119)).alloc (.cells #[.pointer none] 25)) := ⟨_, rfl⟩
  have hsz : W0.heap.size = w3.heap.size + 3 := by rw [hW0]; simp
  have n3 := Boxed.new w3 3 (.int .i64 0)
  have n4 := Boxed.new (w3.alloc (.cells #[.int .i64 0] 3)) 119 (.func (.func 149) #[] #[.pointer (some ⟨w3.heap.size, 0, none⟩)])
  have n5 := Boxed.new ((w3.alloc (.cells #[.int .i64 0] 3)).alloc (.cells #[.func (.func 149) #[] #[.pointer (some ⟨w3.heap.size, 0, none⟩)]] 119)) 25 (.pointer none)
  simp only [World.size_alloc] at n4 n5
  have hbb : BB W0 w.heap.size w3.heap.size (w3.heap.size + 1) 0 0 0 [] := by
    rw [hW0]
    refine ⟨((r0.alloc _).alloc _).alloc _, ((r1.alloc _).alloc _).alloc _, ?_, (n3.alloc _).alloc _, n4.alloc _⟩
    exact isBuilderF_keep (isBuilderF_keep (isBuilderF_keep r2 (World.grownBy_alloc w3 _ none) (fun r e => by cases e)) (World.grownBy_alloc _ _ none) (fun r e => by cases e)) (World.grownBy_alloc _ _ none) (fun r e => by cases e)
  have hbn : Boxed W0 (w3.heap.size + 1 + 1) 25 (.pointer none) := by rw [hW0]; exact n5
  have hB0 : Below w.heap.size w W0 := by
    rw [hW0]
    exact ((hBw.alloc (by omega) _).alloc (by simp; omega) _).alloc (by simp; omega) _
  rw [← hW0]
  clear hW0 n3 n4 n5 r0 r1 r2
  generalize w3.heap.size = hb at hsz hsz3 hbb hbn ⊢
  refine wpIn_rangeFunc_ownG hro h1 (gf := 150) (lb := #[.pointer (some ⟨hb + 1 + 1, 0, none⟩)]) rfl h72 (enters_of Try.func150 (by kernel_rfl) rfl)
    (pieces_stops_nil (3 - 1) (hb + 1 + 1) w.heap.size W0 (by omega) hbn.cell) belowK_t (belowK_b (by omega)) (Below.refl _ _) (fun _ => rfl)
    (fun pre W => BB W w.heap.size hb (hb + 1) 0 0 (tot (vals pre)) (cut (text (vals pre)) 0 0) ∧ (tot (vals pre) ≤ 100000000 + pre.length * 100000000) ∧ Below w.heap.size w W)
    (fun cc pre W => BB W w.heap.size hb (hb + 1) 0 0 (tot (vals pre)) (cut (text (vals pre)) 0 0) ∧ (cc = .exit 0 ∧ (0 : Nat) ≤ tot (vals pre)) ∧ Below w.heap.size w W)
    (OwnFrom.and (Own.from (bb_own w.heap.size hb (hb + 1) 0 0 (fun pre : List Pc => (tot (vals pre) : Int)) (fun pre => cut (text (vals pre)) 0 0)) _) (OwnFrom.and (ownFrom_pure _ _) (ownFrom_below (Nat.le_refl _) (by omega))))
    (fun cc => OwnFrom.and (Own.from (bb_own w.heap.size hb (hb + 1) 0 0 (fun pre : List Pc => (tot (vals pre) : Int)) (fun pre => cut (text (vals pre)) 0 0)) _) (OwnFrom.and (ownFrom_pure _ _) (ownFrom_below (Nat.le_refl _) (by omega))))
    ⟨by simpa [vals, tot, text, cut] using hbb, by simp [vals, tot], hB0⟩
    (fun x => { tmps := #[.pointer none, .int .i64 0, .int .i64 0, undef, .pointer (some ⟨w.heap.size, 0, none⟩), .pointer (some ⟨w.heap.size + 1, 0, none⟩), .string ⟨#[]⟩, .pointer (some ⟨w.heap.size + 1 + 1, 0, none⟩), .pointer (some ⟨hb + 1, 0, none⟩), .string x.1, undef, .int .i64 0, .int .i64 0, .int .i64 0, .tuple #[], .func (.func 149) #[] #[.pointer (some ⟨hb, 0, none⟩)], .pointer none, .func (.func 150) #[] #[.pointer (some ⟨hb + 1 + 1, 0, none⟩)], .string x.1, undef, undef, undef, undef, undef, undef, undef, undef, undef, undef, undef, undef, undef, undef, undef, undef, undef, undef, undef, undef, undef, undef, undef, undef, undef, undef], defers := [] }) ?assign ?body ?done ?stop
  case assign =>
    intro l x W K hK
    gi_wp2
    exact hK
  case body =>
    rintro l pre x W ⟨hbb, hle, hB⟩ hlt
    exact absurd hlt (Nat.not_lt_zero _)
  case done =>
    rintro D ys W hD rfl ⟨hbb, _, hB⟩ hK
    obtain ⟨b0, bv, hbk⟩ : ∃ b0 bv, W.heap[w.heap.size + 1 + 1]? = some (.cells #[b0, bv] 140 (0, 0)) := by
      rcases hbb.b2 with ⟨_, v, h, _⟩ | ⟨_, v, h, _⟩
      · exact ⟨_, _, h⟩
      · exact ⟨_, _, h⟩
    gi_wp2_with (gi_at_call 112; refine (callsIn_wide.2 (Try.Builder_String_any_k (w.heap.size + 1 + 1) (w.heap.size + 1 + 1) _ W hbb.b2 (by have := lt_of_heap hbk; omega))).mono ?_; rintro e w9 ⟨rfl, _, hb9, ho9⟩)
    have hK2 : w9.heap[D]? = some (.deferred (some [])) := ho9 D _ hK (fun e => by cases e; rw [hbk] at hK; cases hK) (fun c fz e => by cases e)
    refine ⟨by simp, .inl ⟨_, _, rfl, run_takeDeferred hK2, ?_⟩⟩
    exact ⟨_, results_tmp rfl _ _ _, rfl, (hB.trans (hb9.mono (by omega))).trans (belowK_b (w := w) (Nat.le_refl _) w9 D _ _ (by omega) hK2 rfl rfl)⟩
  case stop =>
    rintro D cc pre W hD hpre ⟨hbb, ⟨rfl, hge⟩, hB⟩ hK
    obtain ⟨b0, bv, hbk⟩ : ∃ b0 bv, W.heap[w.heap.size + 1 + 1]? = some (.cells #[b0, bv] 140 (0, 0)) := by
      rcases hbb.b2 with ⟨_, v, h, _⟩ | ⟨_, v, h, _⟩
      · exact ⟨_, _, h⟩
      · exact ⟨_, _, h⟩
    obtain rfl : pre = [] := List.prefix_nil.1 hpre
    gi_wp2_with (gi_at_call 112; refine (callsIn_wide.2 (Try.Builder_String_any_k (w.heap.size + 1 + 1) (w.heap.size + 1 + 1) _ W hbb.b2 (by have := lt_of_heap hbk; omega))).mono ?_; rintro e w9 ⟨rfl, _, hb9, ho9⟩)
    have hK2 : w9.heap[D]? = some (.deferred (some [])) := ho9 D _ hK (fun e => by cases e; rw [hbk] at hK; cases hK) (fun c fz e => by cases e)
    refine ⟨by simp, .inl ⟨_, _, rfl, run_takeDeferred hK2, ?_⟩⟩
    exact ⟨_, results_tmp rfl _ _ _, by rfl, (hB.trans (hb9.mono (by omega))).trans (belowK_b (w := w) (Nat.le_refl _) w9 D _ _ (by omega) hK2 rfl rfl)⟩

end Go.Proofs.Ytpmijaplkbmbiaa
