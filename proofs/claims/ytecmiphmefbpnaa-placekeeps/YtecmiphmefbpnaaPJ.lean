/- Few; the chapter's example, walked. -/
import Derived.Test.YtecmiphmefbpnaaPI
import Derived.Laws.StructEq
namespace Go.Proofs.Ytecmiphmefbpnaa.E
open Go.Proofs.Ytecmiphmefbpnaa Go.RowKit Go.By Go.Shelf
set_option linter.unusedVariables false
set_option linter.unusedSimpArgs false

def fewB (rs : List Rn) : Bool := decide (LightR rs) && (!(isG rs) || (decide (mIn (meas rs) ≤ 3000) && decide (mOut (meas rs) ≤ 3000)))

set_option maxRecDepth 20000 in
set_option maxHeartbeats 4000000 in
theorem few_any (a : Option Addr) (cap : Nat) (rs : List Rn) (w : World) (hS : CameR w.heap.size w a rs) :
    Calls Try.prog 7 #[.slice a rs.length cap] w fun e W' => e = .returned (.bool (fewB rs)) ∧ Below w.heap.size w W' := by
  have hL := light_any a cap rs w hS
  by_cases hli : LightR rs
  · have hl : rs.length ≤ 1000000 := by have := hli.1; omega
    rw [decide_eq_true hli] at hL
    have HG : Hid (∀ W, Below w.heap.size w W → Calls Try.prog 21 #[.slice a rs.length cap] W fun e W' => e = .returned (.bool (isG rs)) ∧ Below W.heap.size W W') := hide fun W h => rgood_any a cap rs W ((hS.below h).mono h.size) hl
    have HI : Hid (∀ W, Below w.heap.size w W → Calls Try.prog 22 #[.slice a rs.length cap] W fun e W' => e = .returned (.int .i64 (mIn (meas rs))) ∧ Below W.heap.size W W') := hide fun W h => rin_any a cap rs W ((hS.below h).mono h.size) hl
    have HO : Hid (∀ W, Below w.heap.size w W → Calls Try.prog 23 #[.slice a rs.length cap] W fun e W' => e = .returned (.int .i64 (mOut (meas rs))) ∧ Below W.heap.size W W') := hide fun W h => rout_any a cap rs W ((hS.below h).mono h.size) hl
    have HF : Hid (fewB rs = (!(isG rs) || (decide (mIn (meas rs) ≤ 3000) && decide (mOut (meas rs) ≤ 3000)))) := hide (by rw [fewB, decide_eq_true hli]; rfl)
    generalize fewB rs = fw at *
    generalize isG rs = gd at *
    generalize mIn (meas rs) = mi at *
    generalize mOut (meas rs) = mo at *
    clear hS hli
    go_enter Try.func7, Try.ntmps7
    cases gd with
    | false =>
      go_wp2_with (first
        | (go_at_call 24; refine hL.mono ?_; rintro e W1 ⟨rfl, hb⟩; have HB := hide hb; clear hb)
        | (go_at_call 21; refine (HG.out _ HB.out).mono ?_; rintro e W2 ⟨rfl, hb⟩; have HB2 := hide (HB.out.trans (hb.mono HB.out.size)); clear hb))
      go_ret
      exact ⟨by rw [HF.out]; rfl, HB2.out⟩
    | true =>
      by_cases h1 : mi ≤ 3000
      · by_cases h2 : mo ≤ 3000
        · go_wp2_with (first
            | (go_at_call 24; refine hL.mono ?_; rintro e W1 ⟨rfl, hb⟩; have HB := hide hb; clear hb)
            | (go_at_call 21; refine (HG.out _ HB.out).mono ?_; rintro e W2 ⟨rfl, hb⟩; have HB2 := hide (HB.out.trans (hb.mono HB.out.size)); clear hb)
            | (go_at_call 22; refine (HI.out _ HB2.out).mono ?_; rintro e W3 ⟨rfl, hb⟩; have HB3 := hide (HB2.out.trans (hb.mono HB2.out.size)); clear hb)
            | (go_at_call 23; refine (HO.out _ HB3.out).mono ?_; rintro e W4 ⟨rfl, hb⟩; have HB4 := hide (HB3.out.trans (hb.mono HB3.out.size)); clear hb))
          go_ret
          exact ⟨by first | (rw [HF.out, decide_eq_true h1, decide_eq_true h2]; rfl) | (rw [HF.out, decide_eq_true h1, decide_eq_false (show ¬ mo ≤ 3000 by omega)]; rfl), HB4.out⟩
        · go_wp2_with (first
            | (go_at_call 24; refine hL.mono ?_; rintro e W1 ⟨rfl, hb⟩; have HB := hide hb; clear hb)
            | (go_at_call 21; refine (HG.out _ HB.out).mono ?_; rintro e W2 ⟨rfl, hb⟩; have HB2 := hide (HB.out.trans (hb.mono HB.out.size)); clear hb)
            | (go_at_call 22; refine (HI.out _ HB2.out).mono ?_; rintro e W3 ⟨rfl, hb⟩; have HB3 := hide (HB2.out.trans (hb.mono HB2.out.size)); clear hb)
            | (go_at_call 23; refine (HO.out _ HB3.out).mono ?_; rintro e W4 ⟨rfl, hb⟩; have HB4 := hide (HB3.out.trans (hb.mono HB3.out.size)); clear hb))
          go_ret
          exact ⟨by first | (rw [HF.out, decide_eq_true h1, decide_eq_true h2]; rfl) | (rw [HF.out, decide_eq_true h1, decide_eq_false (show ¬ mo ≤ 3000 by omega)]; rfl), HB4.out⟩
      · go_wp2_with (first
          | (go_at_call 24; refine hL.mono ?_; rintro e W1 ⟨rfl, hb⟩; have HB := hide hb; clear hb)
          | (go_at_call 21; refine (HG.out _ HB.out).mono ?_; rintro e W2 ⟨rfl, hb⟩; have HB2 := hide (HB.out.trans (hb.mono HB.out.size)); clear hb)
          | (go_at_call 22; refine (HI.out _ HB2.out).mono ?_; rintro e W3 ⟨rfl, hb⟩; have HB3 := hide (HB2.out.trans (hb.mono HB2.out.size)); clear hb))
        go_ret
        exact ⟨by rw [HF.out, decide_eq_false (show ¬ mi ≤ 3000 by omega)]; rfl, HB3.out⟩
  · rw [decide_eq_false hli] at hL
    have HF : Hid (fewB rs = false) := hide (by rw [fewB, decide_eq_false hli]; rfl)
    clear hS hli
    go_enter Try.func7, Try.ntmps7
    go_wp2_with (go_at_call 24; refine hL.mono ?_; rintro e W1 ⟨rfl, hb⟩; have HB := hide hb; clear hb)
    go_ret
    exact ⟨by rw [HF.out]; rfl, HB.out⟩

/-- The chapter's example. -/
def l4 : List Rn := [rK 1, rA [120, 121], rD 2, rK 1]
theorem l4_norm : l4 = normT [.K, .A 120, .A 121, .D, .D, .K] := by rfl
theorem l4_good : isG l4 = true := by
  rw [l4_norm, isG_normT (by decide) (by decide), ← l4_norm]; decide
theorem l4_expand : expand l4 = [.K, .A 120, .A 121, .D, .D, .K] := by
  show expand ([rK 1] ++ ([rA [120, 121]] ++ ([rD 2] ++ [rK 1]))) = _
  rw [expand_append, expand_append, expand_append, expand_one, expand_one, expand_one, toks_rK (by decide), toks_rA (by simp), toks_rD (by decide)]
  rfl
theorem l4_move : moveB l4 1 = true ∧ moveN l4 1 false = 1 ∧ moveN l4 1 true = 3 := by
  have h : moveB l4 1 = true := by rw [moveB, l4_good]; decide
  refine ⟨h, ?_, ?_⟩
  · rw [moveN, if_pos h, l4_expand]; rfl
  · rw [moveN, if_pos h, l4_expand]; rfl
theorem l4_span : spanV l4 1 3 = .tuple #[.agg #[.int .i64 1, .int .i64 1], .bool true] ∧ spanV l4 0 4 = .tuple #[.agg #[.int .i64 0, .int .i64 4], .bool true] := by
  have h1 : spanB l4 1 3 = true := by rw [spanB, l4_good]; decide
  have h2 : spanB l4 0 4 = true := by rw [spanB, l4_good]; decide
  refine ⟨?_, ?_⟩
  · rw [spanV, spanP, if_pos h1, h1, spV, l4_expand]; rfl
  · rw [spanV, spanP, if_pos h2, h2, spV, l4_expand]; rfl

theorem eq24 (a b c d : Int) (w : World) : (binOp .eql 24 (.agg #[.int .i64 a, .int .i64 b]) (.agg #[.int .i64 c, .int .i64 d])).run Try.prog w = .ok (.bool ((a == c) && (b == d))) w := by
  have hs : Try.prog.stoodInHeld 24 = false := by kernel_rfl
  have hf : (Try.prog.fieldsOf 24).toList.map (fun f => (f.name, f.type, f.offset)) = [("From", 3, 0), ("To", 3, 1)] := by kernel_rfl
  have hu : Try.prog.underlying 24 = some (.struct (Try.prog.fieldsOf 24)) := by kernel_rfl
  rw [run_eql_struct, run_equalIn_agg w _ _ _ _ hu hs]
  generalize (Try.prog.fieldsOf 24).toList = fs at hf
  have hl : fs.length = 2 := by have := congrArg List.length hf; simpa using this
  match fs, hl with
  | [f1, f2], _ =>
    simp only [List.map_cons, List.map_nil, List.cons.injEq, Prod.mk.injEq, and_true] at hf
    obtain ⟨⟨n1, t1, o1⟩, n2, t2, o2⟩ := hf
    by_cases h1 : a = c
    · subst h1
      by_cases h2 : b = d
      · subst h2; simp [Op.eqFields, n1, n2, t1, t2, o1, o2, go_sem, Try.underlying3]
      · have : (b == d) = false := by simpa using h2
        simp [Op.eqFields, n1, n2, t1, t2, o1, o2, go_sem, Try.underlying3, this]
    · have : (a == c) = false := by simpa using h1
      simp [Op.eqFields, n1, n2, t1, t2, o1, o2, go_sem, Try.underlying3, this]

theorem came_l4 (w : World) : CameR (w.alloc (.cells #[.int .i64 1, .string ⟨#[]⟩, .int .i64 0, .int .i64 0, .string ⟨#[120, 121]⟩, .int .i64 0, .int .i64 0, .string ⟨#[]⟩, .int .i64 2, .int .i64 1, .string ⟨#[]⟩, .int .i64 0] 51)).heap.size
    (w.alloc (.cells #[.int .i64 1, .string ⟨#[]⟩, .int .i64 0, .int .i64 0, .string ⟨#[120, 121]⟩, .int .i64 0, .int .i64 0, .string ⟨#[]⟩, .int .i64 2, .int .i64 1, .string ⟨#[]⟩, .int .i64 0] 51)) (some ⟨w.heap.size, 0, none⟩) l4 := by
  have h := World.alloc_heap_new w (.cells #[.int .i64 1, .string ⟨#[]⟩, .int .i64 0, .int .i64 0, .string ⟨#[120, 121]⟩, .int .i64 0, .int .i64 0, .string ⟨#[]⟩, .int .i64 2, .int .i64 1, .string ⟨#[]⟩, .int .i64 0] 51)
  refine .inr ⟨w.heap.size, 0, rfl, lt_of_heap h, fun i hi => ?_⟩
  have hi' : i < 4 := hi
  rcases i with _ | _ | _ | _ | i
  · exact ⟨by rw [Joins.cell_of_block h]; rfl, by rw [Joins.cell_of_block h]; rfl, by rw [Joins.cell_of_block h]; rfl⟩
  · exact ⟨by rw [Joins.cell_of_block h]; rfl, by rw [Joins.cell_of_block h]; rfl, by rw [Joins.cell_of_block h]; rfl⟩
  · exact ⟨by rw [Joins.cell_of_block h]; rfl, by rw [Joins.cell_of_block h]; rfl, by rw [Joins.cell_of_block h]; rfl⟩
  · exact ⟨by rw [Joins.cell_of_block h]; rfl, by rw [Joins.cell_of_block h]; rfl, by rw [Joins.cell_of_block h]; rfl⟩
  · omega

set_option maxRecDepth 20000 in
set_option maxHeartbeats 8000000 in
theorem lives10 (w : World) : Calls Try.prog 8 #[] w fun e W' => e = .returned (.bool true) ∧ Below w.heap.size w W' := by
  have hc := came_l4 w
  obtain ⟨X, hX⟩ : ∃ X, X = w.alloc (.cells #[.int .i64 1, .string ⟨#[]⟩, .int .i64 0, .int .i64 0, .string ⟨#[120, 121]⟩, .int .i64 0, .int .i64 0, .string ⟨#[]⟩, .int .i64 2, .int .i64 1, .string ⟨#[]⟩, .int .i64 0] 51) := ⟨_, rfl⟩
  have hB : Below w.heap.size w X := by rw [hX]; exact (Below.refl _ w).alloc (Nat.le_refl _) _
  rw [← hX] at hc
  have HU : Hid (∀ W, Below X.heap.size X W → CameR W.heap.size W (some ⟨w.heap.size, 0, none⟩) l4) := hide fun W h => came_up hc h
  have HM1 : Hid (∀ W, Below X.heap.size X W → Calls Try.prog 9 #[.slice (some ⟨w.heap.size, 0, none⟩) 4 4, .int .i64 1, .bool false] W fun e W' => e = .returned (.tuple #[.int .i64 1, .bool true]) ∧ Below W.heap.size W W') := hide fun W h => by
    have := move_any (some ⟨w.heap.size, 0, none⟩) 4 l4 1 false W (HU.out W h) (by decide)
    rw [l4_move.1, l4_move.2.1] at this
    exact this
  have HM2 : Hid (∀ W, Below X.heap.size X W → Calls Try.prog 9 #[.slice (some ⟨w.heap.size, 0, none⟩) 4 4, .int .i64 1, .bool true] W fun e W' => e = .returned (.tuple #[.int .i64 3, .bool true]) ∧ Below W.heap.size W W') := hide fun W h => by
    have := move_any (some ⟨w.heap.size, 0, none⟩) 4 l4 1 true W (HU.out W h) (by decide)
    rw [l4_move.1, l4_move.2.2] at this
    exact this
  have HS1 : Hid (∀ W, Below X.heap.size X W → Calls Try.prog 11 #[.slice (some ⟨w.heap.size, 0, none⟩) 4 4, .agg #[.int .i64 1, .int .i64 3]] W fun e W' => e = .returned (.tuple #[.agg #[.int .i64 1, .int .i64 1], .bool true]) ∧ Below W.heap.size W W') := hide fun W h => by
    have := span_any (some ⟨w.heap.size, 0, none⟩) 4 l4 1 3 W (HU.out W h) (by decide)
    rw [l4_span.1] at this
    exact this
  have HS2 : Hid (∀ W, Below X.heap.size X W → Calls Try.prog 11 #[.slice (some ⟨w.heap.size, 0, none⟩) 4 4, .agg #[.int .i64 0, .int .i64 4]] W fun e W' => e = .returned (.tuple #[.agg #[.int .i64 0, .int .i64 4], .bool true]) ∧ Below W.heap.size W W') := hide fun W h => by
    have := span_any (some ⟨w.heap.size, 0, none⟩) 4 l4 0 4 W (HU.out W h) (by decide)
    rw [l4_span.2] at this
    exact this
  have HL : Hid (∀ W f t, Calls Try.prog 25 #[.int .i64 f, .int .i64 t] W fun e W' => e = .returned (.agg #[.int .i64 f, .int .i64 t]) ∧ Below W.heap.size W W') := hide fun W f t => lspan_any f t W
  have hb0 := Below.refl X.heap.size X
  have HB0 := hide hb0
  have HBB := hide hB
  clear hc hb0 hB
  have q1 := eq24 1 1 1 1
  have q2 := eq24 0 4 0 4
  have hm : Try.prog.eqGuardType Try.prog.depth 24 = false := by kernel_rfl
  subst hX
  go_enter Try.func8, Try.ntmps8
  go_wp2_with (first
    | (go_at_call 9; (with_reducible refine (HM1.out _ HB0.out).mono ?_); rintro e W1 ⟨rfl, hb⟩; have HB1 := hide (HB0.out.trans (hb.mono HB0.out.size)); clear hb)
    | (go_at_call 9; (with_reducible refine (HM2.out _ HB1.out).mono ?_); rintro e W2 ⟨rfl, hb⟩; have HB2 := hide (HB1.out.trans (hb.mono HB1.out.size)); clear hb)
    | (go_at_call 25; (with_reducible refine (HL.out _ 1 3).mono ?_); rintro e W3 ⟨rfl, hb⟩; have HB3 := hide (HB2.out.trans (hb.mono HB2.out.size)); clear hb)
    | (go_at_call 11; (with_reducible refine (HS1.out _ HB3.out).mono ?_); rintro e W4 ⟨rfl, hb⟩; have HB4 := hide ((HB3.out.trans (hb.mono HB3.out.size)).alloc (HB3.out.trans (hb.mono HB3.out.size)).size (.cells #[.int .i64 1, .int .i64 1] 24)); have HX4 := hide (World.alloc_heap_new W4 (.cells #[.int .i64 1, .int .i64 1] 24)); clear hb)
    | (go_at_call 25; (with_reducible refine (HL.out _ 0 4).mono ?_); rintro e W5 ⟨rfl, hb⟩; have HX5 := hide ((hb.block _ (lt_of_heap HX4.out)).trans HX4.out); have HB5 := hide (HB4.out.trans (hb.mono HB4.out.size)); clear hb)
    | (go_at_call 11; (with_reducible refine (HS2.out _ HB5.out).mono ?_); rintro e W6 ⟨rfl, hb⟩; have HX6 := hide ((hb.block _ (lt_of_heap HX5.out)).trans HX5.out); have HB6 := hide (HB5.out.trans (hb.mono HB5.out.size)); clear hb))
  have hz1 : (W6.alloc (.cells #[.int .i64 0, .int .i64 4] 24)).heap[W4.heap.size]? = some (.cells #[.int .i64 1, .int .i64 1] 24 (0, 0)) := (Below.heap_alloc _ _ _ (lt_of_heap HX6.out)).trans HX6.out
  have hz2 := World.alloc_heap_new W6 (.cells #[.int .i64 0, .int .i64 4] 24)
  have HCL : Hid (∀ W, Below (W6.alloc (.cells #[.int .i64 0, .int .i64 4] 24)).heap.size (W6.alloc (.cells #[.int .i64 0, .int .i64 4] 24)).drew W → (W.cell? ⟨W4.heap.size, 0, none⟩ = some (.int .i64 1) ∧ W.cell? ⟨W4.heap.size, 1, none⟩ = some (.int .i64 1) ∧ W.cell? ⟨W6.heap.size, 0, none⟩ = some (.int .i64 0) ∧ W.cell? ⟨W6.heap.size, 1, none⟩ = some (.int .i64 4))) := hide fun W hb => by
    have a1 := (hb.block _ (lt_of_heap hz1)).trans hz1
    have a2 := (hb.block _ (lt_of_heap hz2)).trans hz2
    exact ⟨by rw [Joins.cell_of_block a1]; rfl, by rw [Joins.cell_of_block a1]; rfl, by rw [Joins.cell_of_block a2]; rfl, by rw [Joins.cell_of_block a2]; rfl⟩
  have HZ : Hid (Below w.heap.size w (W6.alloc (.cells #[.int .i64 0, .int .i64 4] 24)).drew) := hide (below_drw ((HBB.out.trans (HB6.out.mono HBB.out.size)).alloc (HBB.out.trans (HB6.out.mono HBB.out.size)).size _))
  obtain ⟨k0, k1, k2, k3⟩ := HCL.out _ (Below.refl _ _)
  clear hz1 hz2
  have HLT : Hid (w.heap.size ≤ (W6.alloc (.cells #[.int .i64 0, .int .i64 4] 24)).heap.size) := hide HZ.out.size
  go_region_with (first
    | (go_at_call 25; (with_reducible refine (HL.out _ 1 1).mono ?_); rintro e W7 ⟨rfl, hb⟩; obtain ⟨l0, l1, l2, l3⟩ := HCL.out _ hb; have HB7 := hide hb; clear hb)
    | (go_at_call 25; (with_reducible refine (HL.out _ 0 4).mono ?_); rintro e W8 ⟨rfl, hb⟩; have hb8 := HB7.out.trans (hb.mono HB7.out.size); obtain ⟨o0, o1, o2, o3⟩ := HCL.out _ hb8; have HB8 := hide hb8; clear hb hb8))
  all_goals (go_wp2; go_ret)
  all_goals exact ⟨by rfl, HZ.out.trans (HB8.out.mono HLT.out)⟩

end Go.Proofs.Ytecmiphmefbpnaa.E
