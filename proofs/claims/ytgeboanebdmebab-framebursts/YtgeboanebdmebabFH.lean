/- frame: what the program reads of a frame's number. -/
import Derived.Test.YtgeboanebdmebabFG
import Derived.Laws.ResultCell
namespace Go.Proofs.Ytgeboanebdmebab.F
open Go.Proofs.Ytgeboanebdmebab Go.RowKit Go.By
set_option linter.unusedVariables false
set_option linter.unusedSimpArgs false
set_option maxRecDepth 20000
attribute [local go_sem ↓] Go.wp_at_zero Go.wp_at_succ

theorem results_ct {P : Program} {fn : Func} {p u : Tmp} {ty : TypeId} (h : fn.results = #[.cell p ty, .tmp u]) (tmps : Array Value) (w : World) (g : Nat) (t : TypeId) (cs : Array Value) (fr : Nat × Nat) (d : TypeDesc)
    (hp : tmps.getD p undef = .pointer (some ⟨g, 0, none⟩)) (hg : w.heap[g]? = some (.cells cs t fr))
    (hu : P.underlying ty = some d) (hd : (match d with | .struct _ | .array _ _ => true | _ => false) = true) (hi : (P.info? ty).map (·.size) = some cs.size) :
    (results fn tmps).run P w = .ok (.tuple #[.agg cs, tmps.getD u undef]) w := by
  rw [results_cell_tmp h, hp]
  simp [asAddr, run_loadVar_row w g t ty cs fr d hg hu hd hi, Result.andThen]

/-- What a frame's number says: how many bytes it has, and the body's; or an error. -/
def headR (l : List Nat) : (Nat × Nat) × Int :=
  match Vary.num l with
  | none => ((0, 0), 10)
  | some (n, k) => if 65576 < n then ((0, 0), 11) else ((k, n), 0)

theorem read_at (a : Option Addr) (l : List Nat) (n cap : Nat) (w : World) (hn : l.length = n) (hL : Came w.heap.size w a l) :
    Calls Try.prog 27 #[.slice a n cap] w fun e w' => e = .returned (.pointer (some ⟨w.heap.size, 0, none⟩)) ∧ V.Rd w' w.heap.size l true ∧ Below w.heap.size w w' := by
  subst hn; exact V.read_look a l cap w hL

theorem num_at (g : Nat) (l : List Nat) (w : World) (hR : V.Rd w g l true) (hl : ∀ c ∈ l, c < 256) (hm : l.length ≤ 20000) :
    Calls Try.prog 28 #[.pointer (some ⟨g, 0, none⟩)] w fun e w' => ∃ z, e = .returned (.int .i64 z) ∧ V.Nums g l true w z w' := V.Num_any g l true w hR hl hm

theorem pair_set {w : World} {g : Nat} {x y x' y' : Value} {t : TypeId} (h : w.heap[g]? = some (.cells #[x, y] t (0, 0))) : ((w.setCell ⟨g, 0, none⟩ x').setCell ⟨g, 1, none⟩ y').heap[g]? = some (.cells #[x', y'] t (0, 0)) := by
  have h1 := Joins.block_setCell (i := 0) h x'
  exact Joins.block_setCell (i := 1) h1 y'

set_option maxHeartbeats 2000000 in
theorem head_small (a : Option Addr) (l : List Nat) (n cap : Nat) (w : World) (hn : l.length = n) (hL : Came w.heap.size w a l) (hm : n ≤ 20000) (hcap : n ≤ cap) (h9 : n ≤ 9) :
    Calls Try.prog 14 #[.slice a n cap] w fun e W' => e = .returned (.tuple #[.agg #[.int .i64 ((headR l).1.1 : Nat), .int .i64 ((headR l).1.2 : Nat)], .int .i64 (headR l).2]) ∧ Below w.heap.size w W' := by
  have hi : (n : Int) ≤ 9 := by omega
  have hs := C.slice_h a n cap n (by omega)
  have HNUM : Hid (Vary.num (l.take n) = Vary.num l) := hide (Vary.num_min l n (by omega))
  have HTL : Hid ((l.take n).length = n) := hide (by rw [List.length_take]; omega)
  have HSM : Hid (∀ c ∈ l.take n, c < 256) := hide fun c hc => hL.1 c (List.mem_of_mem_take hc)
  have HL := hide (hL.take n)
  have HB0 : Hid (Below w.heap.size w (w.alloc (.cells #[.int .i64 0, .int .i64 0] 42)) ∧ (w.alloc (.cells #[.int .i64 0, .int .i64 0] 42)).heap[w.heap.size]? = some (.cells #[.int .i64 0, .int .i64 0] 42 (0, 0))) := hide ⟨(Below.refl _ w).alloc (Nat.le_refl _) _, World.alloc_heap_new w _⟩
  have HRD : Hid (headR l = match Vary.num l with | none => ((0, 0), 10) | some (n, k) => if 65576 < n then ((0, 0), 11) else ((k, n), 0)) := hide rfl
  have hnm : n ≤ 20000 := hm
  clear hL hm h9
  go_enter Try.func14, Try.ntmps14
  go_wp2_with (first
    | (go_at_call 27; refine (read_at a (l.take n) n cap _ HTL.out ((HL.out.below HB0.out.1).mono HB0.out.1.size)).mono ?_; rintro e W1 ⟨rfl, hr, hb⟩; rw [World.size_alloc] at hr; have HR1 := hide hr; have HB1 := hide (And.intro (HB0.out.1.trans (hb.mono HB0.out.1.size)) ((hb.block _ (lt_of_heap HB0.out.2)).trans HB0.out.2)); clear hr hb)
    | fail)
  refine (num_at _ (l.take n) _ HR1.out HSM.out (by have := HTL.out; omega)).mono ?_
  rintro e W2 ⟨z, rfl, hz⟩
  have HB2 : Hid (Below w.heap.size w W2 ∧ W2.heap[w.heap.size]? = some (.cells #[.int .i64 0, .int .i64 0] 42 (0, 0))) := hide ⟨HB1.out.1.trans (hz.1.below (by omega) (Nat.le_of_lt (lt_of_heap HB1.out.2))), (hz.1.1.block _ (lt_of_heap HB1.out.2) (by simp)).trans HB1.out.2⟩
  have hc0 : W2.cell? ⟨w.heap.size, 0, none⟩ = some (.int .i64 0) := by rw [Joins.cell_of_block HB2.out.2]; rfl
  have hc1 : W2.cell? ⟨w.heap.size, 1, none⟩ = some (.int .i64 0) := by rw [Joins.cell_of_block HB2.out.2]; rfl
  have hf0 := Joins.unfrozen_of_block HB2.out.2 0
  have hf1 := Joins.unfrozen_of_block HB2.out.2 1
  rcases hz.2 with ⟨v, k, hv, rfl, hrd⟩ | ⟨hv, rfl, hrd⟩
  · have hb9 := Vary.num_back HSM.out hv
    rw [HNUM.out] at hv
    have HV : Hid (headR l = if 65576 < v then ((0, 0), 11) else ((k, v), 0)) := hide (by rw [HRD.out, hv])
    have hkN : k ≤ n := by have := hb9.2.2.2.2; rw [HTL.out] at this; exact this
    have hvm : v ≤ 4611686018427387904 := hb9.2.1
    have HLEN : Hid (((l.take n).drop k).length = n - k) := hide (by rw [List.length_drop, HTL.out])
    have HRD2 := hide hrd
    clear hb9 hv hz hrd HRD
    by_cases hbig : 65576 < v
    · have HV2 : Hid (headR l = ((0, 0), 11)) := hide (by rw [HV.out, if_pos hbig])
      have hbig' : (65576 : Int) < (v : Int) := by omega
      clear HV hbig
      go_wp2_with (go_at_call 29; refine (V.Bad_any _ _ true _ HRD2.out).mono ?_; rintro e W3 ⟨rfl, hw⟩; subst hw)
      exact bodyPost_ret (results_ct rfl _ _ w.heap.size 42 _ (0, 0) _ rfl (pair_set HB2.out.2) Try.underlying42 rfl (by kernel_rfl)) rfl ⟨by rw [HV2.out]; rfl, (HB2.out.1.setCell (Nat.le_refl _) _).setCell (Nat.le_refl _) _⟩
    · have HV2 : Hid (headR l = ((k, v), 0)) := hide (by rw [HV.out, if_neg hbig])
      have hbig' : ¬ (65576 : Int) < (v : Int) := by omega
      have hlen := HLEN.out
      clear HV hbig
      go_wp2_with (first
        | (go_at_call 29; refine (V.Bad_any _ _ true _ HRD2.out).mono ?_; rintro e W3 ⟨rfl, hw⟩; subst hw)
        | (go_at_call 30; refine (V.Left_any _ _ true _ HRD2.out).mono ?_; rintro e W4 ⟨rfl, hw⟩; subst hw; rw [hlen]))
      have hdk : ((n : Nat) : Int) - ((n - k : Nat) : Int) = (k : Int) := by omega
      exact bodyPost_ret (results_ct rfl _ _ w.heap.size 42 _ (0, 0) _ rfl (pair_set HB2.out.2) Try.underlying42 rfl (by kernel_rfl)) rfl ⟨by rw [HV2.out, ← hdk]; rfl, (HB2.out.1.setCell (Nat.le_refl _) _).setCell (Nat.le_refl _) _⟩
  · rw [HNUM.out] at hv
    have HV2 : Hid (headR l = ((0, 0), 10)) := hide (by rw [HRD.out, hv])
    have HRD2 := hide hrd
    clear hv hz hrd HRD
    go_wp2_with (go_at_call 29; refine (V.Bad_any _ _ false _ HRD2.out).mono ?_; rintro e W3 ⟨rfl, hw⟩; subst hw)
    exact bodyPost_ret (results_ct rfl _ _ w.heap.size 42 _ (0, 0) _ rfl (pair_set HB2.out.2) Try.underlying42 rfl (by kernel_rfl)) rfl ⟨by rw [HV2.out]; rfl, (HB2.out.1.setCell (Nat.le_refl _) _).setCell (Nat.le_refl _) _⟩

set_option maxHeartbeats 2000000 in
theorem head_big (a : Option Addr) (l : List Nat) (n cap : Nat) (w : World) (hn : l.length = n) (hL : Came w.heap.size w a l) (hm : n ≤ 20000) (hcap : n ≤ cap) (h9 : 9 < n) :
    Calls Try.prog 14 #[.slice a n cap] w fun e W' => e = .returned (.tuple #[.agg #[.int .i64 ((headR l).1.1 : Nat), .int .i64 ((headR l).1.2 : Nat)], .int .i64 (headR l).2]) ∧ Below w.heap.size w W' := by
  have hi : 9 < (n : Int) := by omega
  have hs := C.slice_h a n cap 9 (by omega)
  have HNUM : Hid (Vary.num (l.take 9) = Vary.num l) := hide (Vary.num_min l 9 (by omega))
  have HTL : Hid ((l.take 9).length = 9) := hide (by rw [List.length_take]; omega)
  have HSM : Hid (∀ c ∈ l.take 9, c < 256) := hide fun c hc => hL.1 c (List.mem_of_mem_take hc)
  have HL := hide (hL.take 9)
  have HB0 : Hid (Below w.heap.size w (w.alloc (.cells #[.int .i64 0, .int .i64 0] 42)) ∧ (w.alloc (.cells #[.int .i64 0, .int .i64 0] 42)).heap[w.heap.size]? = some (.cells #[.int .i64 0, .int .i64 0] 42 (0, 0))) := hide ⟨(Below.refl _ w).alloc (Nat.le_refl _) _, World.alloc_heap_new w _⟩
  have HRD : Hid (headR l = match Vary.num l with | none => ((0, 0), 10) | some (n, k) => if 65576 < n then ((0, 0), 11) else ((k, n), 0)) := hide rfl
  have hnm : n ≤ 20000 := hm
  clear hL hm h9
  go_enter Try.func14, Try.ntmps14
  go_wp2_with (first
    | (go_at_call 27; refine (read_at a (l.take 9) 9 cap _ HTL.out ((HL.out.below HB0.out.1).mono HB0.out.1.size)).mono ?_; rintro e W1 ⟨rfl, hr, hb⟩; rw [World.size_alloc] at hr; have HR1 := hide hr; have HB1 := hide (And.intro (HB0.out.1.trans (hb.mono HB0.out.1.size)) ((hb.block _ (lt_of_heap HB0.out.2)).trans HB0.out.2)); clear hr hb)
    | fail)
  refine (num_at _ (l.take 9) _ HR1.out HSM.out (by have := HTL.out; omega)).mono ?_
  rintro e W2 ⟨z, rfl, hz⟩
  have HB2 : Hid (Below w.heap.size w W2 ∧ W2.heap[w.heap.size]? = some (.cells #[.int .i64 0, .int .i64 0] 42 (0, 0))) := hide ⟨HB1.out.1.trans (hz.1.below (by omega) (Nat.le_of_lt (lt_of_heap HB1.out.2))), (hz.1.1.block _ (lt_of_heap HB1.out.2) (by simp)).trans HB1.out.2⟩
  have hc0 : W2.cell? ⟨w.heap.size, 0, none⟩ = some (.int .i64 0) := by rw [Joins.cell_of_block HB2.out.2]; rfl
  have hc1 : W2.cell? ⟨w.heap.size, 1, none⟩ = some (.int .i64 0) := by rw [Joins.cell_of_block HB2.out.2]; rfl
  have hf0 := Joins.unfrozen_of_block HB2.out.2 0
  have hf1 := Joins.unfrozen_of_block HB2.out.2 1
  rcases hz.2 with ⟨v, k, hv, rfl, hrd⟩ | ⟨hv, rfl, hrd⟩
  · have hb9 := Vary.num_back HSM.out hv
    rw [HNUM.out] at hv
    have HV : Hid (headR l = if 65576 < v then ((0, 0), 11) else ((k, v), 0)) := hide (by rw [HRD.out, hv])
    have hkN : k ≤ 9 := by have := hb9.2.2.2.2; rw [HTL.out] at this; exact this
    have hvm : v ≤ 4611686018427387904 := hb9.2.1
    have HLEN : Hid (((l.take 9).drop k).length = 9 - k) := hide (by rw [List.length_drop, HTL.out])
    have HRD2 := hide hrd
    clear hb9 hv hz hrd HRD
    by_cases hbig : 65576 < v
    · have HV2 : Hid (headR l = ((0, 0), 11)) := hide (by rw [HV.out, if_pos hbig])
      have hbig' : (65576 : Int) < (v : Int) := by omega
      clear HV hbig
      go_wp2_with (go_at_call 29; refine (V.Bad_any _ _ true _ HRD2.out).mono ?_; rintro e W3 ⟨rfl, hw⟩; subst hw)
      exact bodyPost_ret (results_ct rfl _ _ w.heap.size 42 _ (0, 0) _ rfl (pair_set HB2.out.2) Try.underlying42 rfl (by kernel_rfl)) rfl ⟨by rw [HV2.out]; rfl, (HB2.out.1.setCell (Nat.le_refl _) _).setCell (Nat.le_refl _) _⟩
    · have HV2 : Hid (headR l = ((k, v), 0)) := hide (by rw [HV.out, if_neg hbig])
      have hbig' : ¬ (65576 : Int) < (v : Int) := by omega
      have hlen := HLEN.out
      clear HV hbig
      go_wp2_with (first
        | (go_at_call 29; refine (V.Bad_any _ _ true _ HRD2.out).mono ?_; rintro e W3 ⟨rfl, hw⟩; subst hw)
        | (go_at_call 30; refine (V.Left_any _ _ true _ HRD2.out).mono ?_; rintro e W4 ⟨rfl, hw⟩; subst hw; rw [hlen]))
      have hdk : ((9 : Nat) : Int) - ((9 - k : Nat) : Int) = (k : Int) := by omega
      exact bodyPost_ret (results_ct rfl _ _ w.heap.size 42 _ (0, 0) _ rfl (pair_set HB2.out.2) Try.underlying42 rfl (by kernel_rfl)) rfl ⟨by rw [HV2.out, ← hdk]; rfl, (HB2.out.1.setCell (Nat.le_refl _) _).setCell (Nat.le_refl _) _⟩
  · rw [HNUM.out] at hv
    have HV2 : Hid (headR l = ((0, 0), 10)) := hide (by rw [HRD.out, hv])
    have HRD2 := hide hrd
    clear hv hz hrd HRD
    go_wp2_with (go_at_call 29; refine (V.Bad_any _ _ false _ HRD2.out).mono ?_; rintro e W3 ⟨rfl, hw⟩; subst hw)
    exact bodyPost_ret (results_ct rfl _ _ w.heap.size 42 _ (0, 0) _ rfl (pair_set HB2.out.2) Try.underlying42 rfl (by kernel_rfl)) rfl ⟨by rw [HV2.out]; rfl, (HB2.out.1.setCell (Nat.le_refl _) _).setCell (Nat.le_refl _) _⟩


theorem head_any (a : Option Addr) (l : List Nat) (n cap : Nat) (w : World) (hn : l.length = n) (hL : Came w.heap.size w a l) (hm : n ≤ 20000) (hcap : n ≤ cap) :
    Calls Try.prog 14 #[.slice a n cap] w fun e W' => e = .returned (.tuple #[.agg #[.int .i64 ((headR l).1.1 : Nat), .int .i64 ((headR l).1.2 : Nat)], .int .i64 (headR l).2]) ∧ Below w.heap.size w W' := by
  by_cases h : n ≤ 9
  · exact head_small a l n cap w hn hL hm hcap h
  · exact head_big a l n cap w hn hL hm hcap (by omega)
end Go.Proofs.Ytgeboanebdmebab.F
