/- The reference's pushing, setting and skipping; a new ring. -/
import Derived.Test.YtehefenagpdlaaaRef
namespace Go.Proofs.Ytehefenagpdlaaa
open Go.RowKit Go.By Go.Shelf
set_option linter.unusedVariables false

/-- 'append(own, src...)', whatever the source: nil or not. -/
theorem wpList_append_vals {P : Program} {w : World} {ops : Array Oper} {rest : List Oper} {o : Oper} {a : Act} {Q : Exit → Act → World → Prop} (hgd : o.guard = none) (s x : Operand) (T E : TypeId)
    (ho : o.op = .call { callee := .builtin .append, args := #[s, x], argTypes := #[T, T] })
    (ht : P.underlying T = some (.slice E)) (z : Value) (bytes : Nat) (hinfo : (P.info? E).map (fun i => (i.zero, i.size, i.bytes)) = some (some z, 1, bytes)) (hz : z.cells.size = 1) (base : Nat)
    (v : Value) (n : Nat) (l : List Value) (hs : a.eval s = v) (hown : w.ownsRow base E 1 v n l)
    (ad : Option Addr) (m : List Value) (k cap : Nat) (hx : a.eval x = .slice ad k cap) (hk : m.length = k) (hm : ∀ y, ad = some y → ∀ j u, m[j]? = some u → w.cell? (y.add j) = some u) (hnil : ad = none → m = [] ∧ cap = 0) (h1 : ∀ u ∈ m, u.oneCell' = true)
    (h63 : n + k ≤ maxLen) (hbytes : (n + k) * bytes ≤ 140737488355328) (hbase : base ≤ w.heap.size)
    (h : ∀ v' w', w'.ownsRow base E 1 v' (n + k) (l ++ m) → w.grownBy w' v.ownBlock → wpList P ops Q rest (a.put o.dst v') w') : wpList P ops Q (o :: rest) a w := by
  obtain ⟨i0, hi, hz0, hz1, hz2⟩ := info_parts hinfo
  subst hk
  cases ad with
  | none =>
    obtain ⟨rfl, rfl⟩ := hnil rfl
    refine wpList_append_own_none hgd s x T ho base E i0 1 ht hi v n l hs hown hx (h v w (by simpa using hown) ?_)
    exact ⟨rfl, rfl, rfl, Nat.le_refl _, fun _ _ _ => rfl⟩
  | some y =>
    refine wpList_append_own w hgd s x T ho base E i0 z 1 bytes ht hi hz0 hz1 hz2 hz (by decide) v n l hs hown y m.length cap m hx (by simp) (hm y rfl) h1 h63 hbytes hbase ?_
    intro v' w' h1 h2 _
    exact h v' w' h1 h2

theorem owns_empty3 (w : World) (base : Nat) (E : TypeId) (hb : base ≤ w.heap.size) : (w.alloc (.cells #[] E)).ownsRow base E 1 (.slice (some ⟨w.heap.size, 0, none⟩) 0 0) 0 [] :=
  World.ownsRow_made w #[] 0 hb (by unfold maxLen; omega) rfl

theorem oneCell_ints (l : List Int) : ∀ u ∈ l.map (Value.int .i64), u.oneCell' = true := by
  intro u hu
  obtain ⟨c, _, rfl⟩ := List.mem_map.1 hu
  rfl

set_option maxRecDepth 20000 in
set_option maxHeartbeats 2000000 in
theorem ref_push_full (v : Value) (l : List Int) (most : Nat) (x : Int) (w : World) (h : Lst w v l) (hm : most ≤ l.length) :
    Calls Try.prog 13 #[v, .int .i64 (most : Int), .int .i64 x] w fun e w' => e = .returned (.tuple #[v, .int .i64 31]) ∧ w' = w := by
  obtain ⟨a, cap, rfl, _⟩ := h
  have hm' : (most : Int) ≤ (l.length : Int) := by omega
  go_enter Try.func13, Try.ntmps13
  go_wp2
  go_ret2
  exact ⟨rfl, rfl⟩

set_option maxRecDepth 20000 in
set_option maxHeartbeats 2000000 in
theorem ref_push_ok (v : Value) (l : List Int) (most : Nat) (x : Int) (w : World) (h : Lst w v l) (hm : l.length < most) (hb : l.length ≤ 1000000) :
    Calls Try.prog 13 #[v, .int .i64 (most : Int), .int .i64 x] w fun e w' => ∃ v', e = .returned (.tuple #[v', .int .i64 0]) ∧ w'.ownsRow w.heap.size 3 1 v' (l ++ [x]).length ((l ++ [x]).map (Value.int .i64)) ∧ Below w.heap.size w w' := by
  have hnil : ∀ a cap, v = .slice a l.length cap → a = none → l.map (Value.int .i64) = [] ∧ cap = 0 := by
    obtain ⟨a', cap', rfl, h1, h2, h3, _⟩ := h
    intro a cap e ha
    cases e
    have := h3 ha
    subst this
    exact ⟨by have : l = [] := List.length_eq_zero_iff.1 (by omega)
              simp [this], rfl⟩
  obtain ⟨a, cap, rfl⟩ : ∃ a cap, v = .slice a l.length cap := by obtain ⟨a, cap, e, _⟩ := h; exact ⟨a, cap, e⟩
  have hm' : ¬ (most : Int) ≤ (l.length : Int) := by omega
  have hd : decide ((most : Int) ≤ (l.length : Int)) = false := decide_eq_false hm'
  have HN := hide (hnil a cap rfl)
  have H := hide h
  have hsz : (l.map (Value.int .i64)).length = l.length := by simp
  have HSZ := hide hsz
  clear hnil h hsz
  go_enter Try.func13, Try.ntmps13
  go_wp2_with (first
    | (at_builtin; refine wpList_append_vals (l := []) (n := 0) rfl _ _ 27 3 rfl Try.underlying27 (.int .i64 0) 8 Try.info3 rfl w.heap.size _ rfl (owns_empty3 w _ 3 (Nat.le_refl _)) a (l.map (Value.int .i64)) l.length cap rfl HSZ.out (H.out.below ((Below.refl _ w).alloc (Nat.le_refl _) _)).news.2 HN.out (oneCell_ints l) (by unfold maxLen; omega) (by omega) (by simp) ?_; intro v1 w1 hr1 hg1; have hb1 : Below w.heap.size w w1 := ((Below.refl _ w).alloc (Nat.le_refl _) _).grown hg1 (by simp) (fun k hk => by cases hk; exact Nat.le_refl _); have HR1 := hide hr1; have HB1 := hide hb1; clear hr1 hg1 hb1 HN H)
    | (at_builtin; refine wpList_append_vals rfl _ _ 27 3 rfl Try.underlying27 (.int .i64 0) 8 Try.info3 rfl w.heap.size v1 (0 + l.length) ([] ++ l.map (Value.int .i64)) rfl (HR1.out.alloc _) (some ⟨w1.heap.size, 0, none⟩) [.int .i64 x] 1 1 rfl rfl (fun y hy => by cases hy; exact cell_one_new _ _ _) (fun e => by cases e) (by simp [Value.oneCell']) (by unfold maxLen; omega) (by omega) (by have := HB1.out.size; simp; omega) ?_; intro v2 w2 hr2 hg2; have hb2 : Below w.heap.size w w2 := (HB1.out.alloc HB1.out.size _).grown hg2 (by have := HB1.out.size; simp; omega) (fun k hk => (ownBlock_lt HR1.out hk).1); have HR2 := hide hr2; have HB2 := hide hb2; clear hr2 hg2 hb2))
  go_ret2
  refine ⟨_, rfl, by simpa using HR2.out, HB2.out⟩

end Go.Proofs.Ytehefenagpdlaaa
