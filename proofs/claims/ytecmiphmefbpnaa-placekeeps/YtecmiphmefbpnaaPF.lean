/- The last run that begins ahead of a place: sort.Search. -/
import Derived.Test.YtecmiphmefbpnaaPE
import Derived.Shelf.SlSorted.Search
namespace Go.Proofs
open Go.Shelf
def Try.lays16_ren : Go.Shelf.Ren := ⟨fun | 16 => 48 | n => n, fun | 35 => 96 | 38 => 105 | n => n, fun | n => n⟩
theorem Try.lays16 : Go.Proofs.SlLaysO.n16 Try.prog Try.lays16_ren := {
  mixed := by kernel_rfl
  f16 := Try.func48.trans (congrArg some (by kernel_rfl))
  t3 := Try.underlying3
  a3 := Try.isAgg3
  z3 := Try.sizeOf3
  v3 := Try.zeroValue3
  t4 := Try.underlying4
  a4 := Try.isAgg4
  z4 := Try.sizeOf4
  v4 := Try.zeroValue4
  t35 := Try.underlying96
  a35 := Try.isAgg96
  z35 := Try.sizeOf96
  v35 := Try.zeroValue96
  t38 := Try.underlying105
  a38 := Try.isAgg105
  z38 := Try.sizeOf105
  v38 := Try.zeroValue105 }
end Go.Proofs
namespace Go.Proofs.Ytecmiphmefbpnaa.E
open Go.Proofs.Ytecmiphmefbpnaa Go.RowKit Go.By Go.Shelf Go.Sort
set_option linter.unusedVariables false
set_option linter.unusedSimpArgs false

/-- Does the i-th run begin behind a place? -/
def pz (rs : List Rn) (at' : Int) (b : Bool) (i : Nat) : Bool := decide (at' < sI (rs.take i)) || (decide (sI (rs.take i) = at') && !b)
def lastN (rs : List Rn) (at' : Int) (b : Bool) : Nat := cnt rs.length fun i => !(pz rs at' b i)
def lastP (rs : List Rn) (at' : Int) (b : Bool) : Pl := if lastN rs at' b = 0 then pl0 else (plc rs).getD (lastN rs at' b - 1) pl0
theorem sI_up {rs : List Rn} (h : ∀ x ∈ rs, kind x ≠ 0) {i j : Nat} (hij : i ≤ j) : sI (rs.take i) ≤ sI (rs.take j) := by
  have := (sums_take (rs := rs.take j) (fun x hx => h x (List.mem_of_mem_take hx)) i).1.2
  rwa [List.take_take, Nat.min_eq_left hij] at this
theorem pz_up {rs : List Rn} (h : ∀ x ∈ rs, kind x ≠ 0) (at' : Int) (b : Bool) {i j : Nat} (hij : i ≤ j) (hp : pz rs at' b i = true) : pz rs at' b j = true := by
  have := sI_up h hij
  unfold pz at hp ⊢
  cases b with
  | true => simp at hp ⊢; omega
  | false => simp at hp ⊢; omega
theorem lastN_is {rs : List Rn} (at' : Int) (b : Bool) : IsCnt rs.length (fun i => !(pz rs at' b i)) (lastN rs at' b) := cnt_is _ _
theorem lastN_count {rs : List Rn} (h : ∀ x ∈ rs, kind x ≠ 0) (at' : Int) (b : Bool) : (List.range rs.length).countP (fun i => !(pz rs at' b i)) = lastN rs at' b := by
  obtain ⟨h1, h2, h3⟩ := lastN_is (rs := rs) at' b
  have hr : ∀ t, t < rs.length → (List.range rs.length)[t]! = t := fun t ht => by rw [getElem!_pos _ t (by simpa using ht)]; simp
  refine Lib.countP_boundary _ (List.range rs.length) (lastN rs at' b) (by simpa using h1) (fun t ht => ?_) (fun t h4 h5 => ?_)
  · rw [hr t (by omega)]; exact h2 t ht
  · rw [hr t (by simpa using h5)]
    rcases h3 with h3 | h3
    · exact absurd (show t < rs.length by simpa using h5) (by omega)
    · have h6 : pz rs at' b (lastN rs at' b) = true := by simpa using h3
      have h7 := pz_up h at' b h4 h6
      simp [h7]

def stV (x : Pl) : Value := .agg #[.int .i64 x.2.2.keep, .string x.2.2.add, .int .i64 x.2.2.drop, .int .i64 x.1, .int .i64 x.2.1]
/-- A mover's box, and those of a place. -/
def SBox (m p q g n c : Nat) (I at' : Int) (b : Bool) (W : World) : Prop := W.heap[m]? = some (.cells #[.slice (some ⟨g, 0, none⟩) n c, .int .i64 I] 55 (0, 0)) ∧ W.heap[p]? = some (.cells #[.int .i64 at'] 3 (0, 0)) ∧ W.heap[q]? = some (.cells #[.bool b] 4 (0, 0))

set_option maxRecDepth 20000 in
set_option maxHeartbeats 4000000 in
theorem last1_any {W : World} {m p q g n c i : Nat} {I at' x : Int} {b : Bool} (hb : SBox m p q g n c I at' b W) (hi : i < n) (hx : W.cell? ⟨g, i * 5 + 3, none⟩ = some (.int .i64 x)) :
    Calls Try.prog 49 #[.int .i64 i, .pointer (some ⟨m, 0, none⟩), .pointer (some ⟨p, 0, none⟩), .pointer (some ⟨q, 0, none⟩)] W fun e W' => e = .returned (.bool (decide (at' < x) || (decide (x = at') && !b))) ∧ W' = W := by
  have c0 : W.cell? ⟨m, 0, none⟩ = some (.slice (some ⟨g, 0, none⟩) n c) := by rw [Joins.cell_of_block hb.1]; rfl
  have c1 : W.cell? ⟨p, 0, none⟩ = some (.int .i64 at') := by rw [Joins.cell_of_block hb.2.1]; rfl
  have c2 : W.cell? ⟨q, 0, none⟩ = some (.bool b) := by rw [Joins.cell_of_block hb.2.2]; rfl
  have hi' : (i : Int) < (n : Int) := by omega
  clear hb
  go_enter Try.func49, Try.ntmps49
  by_cases h1 : at' < x
  · go_wp2
    go_ret
    exact ⟨by simp [h1], rfl⟩
  · by_cases h2 : x = at'
    · subst h2
      go_wp2
      go_ret
      exact ⟨by simp, rfl⟩
    · go_wp2
      go_ret
      exact ⟨by simp [h1, h2], rfl⟩

theorem frame4 (w : World) (v : Array Value) (at' : Int) (b : Bool) :
    let X := (((w.alloc (.cells v 55)).alloc (.cells #[.int .i64 at'] 3)).alloc (.cells #[.bool b] 4)).alloc (.cells #[.int .i64 0, .string ⟨#[]⟩, .int .i64 0, .int .i64 0, .int .i64 0] 82)
    X.heap[w.heap.size]? = some (.cells v 55 (0, 0)) ∧ X.heap[w.heap.size + 1]? = some (.cells #[.int .i64 at'] 3 (0, 0)) ∧ X.heap[w.heap.size + 1 + 1]? = some (.cells #[.bool b] 4 (0, 0)) ∧
      X.heap[w.heap.size + 1 + 1 + 1]? = some (.cells #[.int .i64 0, .string ⟨#[]⟩, .int .i64 0, .int .i64 0, .int .i64 0] 82 (0, 0)) ∧ Below w.heap.size w X := by
  intro X
  have h0 := World.alloc_heap_new w (.cells v 55)
  have h1 := World.alloc_heap_new (w.alloc (.cells v 55)) (.cells #[.int .i64 at'] 3)
  have h2 := World.alloc_heap_new ((w.alloc (.cells v 55)).alloc (.cells #[.int .i64 at'] 3)) (.cells #[.bool b] 4)
  have h3 := World.alloc_heap_new (((w.alloc (.cells v 55)).alloc (.cells #[.int .i64 at'] 3)).alloc (.cells #[.bool b] 4)) (.cells #[.int .i64 0, .string ⟨#[]⟩, .int .i64 0, .int .i64 0, .int .i64 0] 82)
  rw [World.size_alloc] at h1
  rw [World.size_alloc, World.size_alloc] at h2
  rw [World.size_alloc, World.size_alloc, World.size_alloc] at h3
  refine ⟨?_, ?_, ?_, h3, ?_⟩
  · exact (Below.heap_alloc _ _ _ (by simp; omega)).trans ((Below.heap_alloc _ _ _ (by simp; omega)).trans ((Below.heap_alloc _ _ _ (by simp)).trans h0))
  · exact (Below.heap_alloc _ _ _ (by simp)).trans ((Below.heap_alloc _ _ _ (by simp)).trans h1)
  · exact (Below.heap_alloc _ _ _ (by simp)).trans h2
  · exact ((((Below.refl _ w).alloc (Nat.le_refl _) _).alloc (by simp) _).alloc (by simp; omega) _).alloc (by simp; omega) _

set_option maxRecDepth 20000 in
set_option maxHeartbeats 4000000 in
theorem last_any {w : World} {g : Nat} {rs : List Rn} {I at' : Int} {b : Bool} (hK : ∀ x ∈ rs, kind x ≠ 0) (hl : rs.length ≤ 1000000) (hS : StandsAt w.heap.size w g (plc rs)) :
    Calls Try.prog 40 #[.agg #[.slice (some ⟨g, 0, none⟩) rs.length rs.length, .int .i64 I], .int .i64 at', .bool b] w fun e W' => e = .returned (stV (lastP rs at' b)) ∧ Below w.heap.size w W' := by
  obtain ⟨X, hX⟩ : ∃ X, X = (((w.alloc (.cells #[.slice (some ⟨g, 0, none⟩) rs.length rs.length, .int .i64 I] 55)).alloc (.cells #[.int .i64 at'] 3)).alloc (.cells #[.bool b] 4)).alloc (.cells #[.int .i64 0, .string ⟨#[]⟩, .int .i64 0, .int .i64 0, .int .i64 0] 82) := ⟨_, rfl⟩
  obtain ⟨h0, h1, h2, h3, hB⟩ := frame4 w #[.slice (some ⟨g, 0, none⟩) rs.length rs.length, .int .i64 I] at' b
  rw [← hX] at h0 h1 h2 h3 hB
  have hSX : StandsAt w.heap.size X g (plc rs) := hS.below hB
  have hgX : g < X.heap.size := Nat.lt_of_lt_of_le hS.1 hB.size
  have hsearch := Any.sort_Search Try.lays16 49 #[.pointer (some ⟨w.heap.size, 0, none⟩), .pointer (some ⟨w.heap.size + 1, 0, none⟩), .pointer (some ⟨w.heap.size + 1 + 1, 0, none⟩)] rs.length (pz rs at' b) X (enters_of Try.func49 (by kernel_rfl) rfl) (by omega)
    (fun m os i hi => by
      have hb := below_grown_sl X.heap.size X m os (Nat.le_refl _)
      have hc := (hSX.below (hb.mono (by have := hB.size; omega))).2 i (by rw [length_plc]; exact hi)
      rw [plc_getD hi] at hc
      have := last1_any (W := grow (X.drewN m) os) (m := w.heap.size) (p := w.heap.size + 1) (q := w.heap.size + 1 + 1) (g := g) (n := rs.length) (c := rs.length) (I := I) (at' := at') (b := b) (i := i) ⟨(hb.block _ (lt_of_heap h0)).trans h0, (hb.block _ (lt_of_heap h1)).trans h1, (hb.block _ (lt_of_heap h2)).trans h2⟩ hi hc.2.2.2.1
      refine this.mono fun e W' h => ⟨h.1, 0, #[], ?_⟩
      rw [h.2, grow_empty]; rfl)
    (fun a c hac hc hp => pz_up hK at' b hac hp)
  rw [lastN_count hK] at hsearch
  change Calls Try.prog 48 _ _ _ at hsearch
  replace hsearch := hsearch.mono (R' := fun e W' => e = .returned (.int .i64 (lastN rs at' b : Nat)) ∧ Below X.heap.size X W') fun e W' ⟨h1, q, os, h2⟩ => ⟨h1, by rw [h2]; exact below_grown_sl X.heap.size X q os (Nat.le_refl _)⟩
  have hN := lastN_is (rs := rs) at' b
  have hle : lastN rs at' b ≤ rs.length := hN.1
  have HSX := hide hSX
  have HF := hide (And.intro h0 (And.intro h3 hB))
  have HL : Hid (lastP rs at' b = if lastN rs at' b = 0 then pl0 else (plc rs).getD (lastN rs at' b - 1) pl0) := hide rfl
  have c0 : X.cell? ⟨w.heap.size, 0, none⟩ = some (.slice (some ⟨g, 0, none⟩) rs.length rs.length) := by rw [Joins.cell_of_block h0]; rfl
  generalize lastP rs at' b = L at *
  generalize lastN rs at' b = N at *
  clear hN h0 h1 h2 h3 hB hSX hS
  go_enter Try.func40, Try.ntmps40
  subst hX
  cases N with
  | zero =>
    have HEQ : Hid (L = pl0) := hide HL.out
    go_wp2_with (go_at_call 48; refine hsearch.mono ?_; rintro e W2 ⟨rfl, hb⟩; have hz := (hb.block _ (lt_of_heap HF.out.2.1)).trans HF.out.2.1; obtain ⟨z0, z1, z2, z3, z4⟩ := cels5 hz; have f0 := unfroz (i := 0) hz; have f1 := unfroz (i := 1) hz; have f2 := unfroz (i := 2) hz; have f3 := unfroz (i := 3) hz; have f4 := unfroz (i := 4) hz; have HZ := hide (And.intro hb hz); clear hb hz)
    obtain ⟨v2, o2⟩ := set5 HZ.out.2 (.int .i64 0) (.string ⟨#[]⟩) (.int .i64 0) (.int .i64 0) (.int .i64 0) rfl
    refine bodyPost_ret (results_cell_row rfl _ _ (w.heap.size + 1 + 1 + 1) 82 _ (0, 0) _ rfl v2 Try.underlying82 rfl (by kernel_rfl)) rfl ?_
    refine ⟨by rw [HEQ.out]; rfl, (HF.out.2.2.trans (HZ.out.1.mono HF.out.2.2.size)).trans (o2.below (Nat.le_trans HF.out.2.2.size HZ.out.1.size) fun i hi => by omega)⟩
  | succ k =>
    obtain ⟨Y, hY⟩ : ∃ Y, Y = (plc rs).getD k pl0 := ⟨_, rfl⟩
    have HEQ : Hid (L = Y) := hide (by rw [hY]; exact HL.out)
    have HST : Hid (∀ W2, Below w.heap.size (((((w.alloc (.cells #[.slice (some ⟨g, 0, none⟩) rs.length rs.length, .int .i64 I] 55)).alloc (.cells #[.int .i64 at'] 3)).alloc (.cells #[.bool b] 4)).alloc (.cells #[.int .i64 0, .string ⟨#[]⟩, .int .i64 0, .int .i64 0, .int .i64 0] 82))) W2 → _) := hide fun W2 hb => (HSX.out.below hb).2 k (by rw [length_plc]; omega)
    rw [← hY] at HST
    clear hY
    have w1 : IntKind.i64.wrap (((k + 1 : Nat) : Int) - 1) = (k : Int) := by rw [IntKind.wrap_i64]; omega
    go_wp2_with (go_at_call 48; refine hsearch.mono ?_; rintro e W2 ⟨rfl, hb⟩; have hz := (hb.block _ (lt_of_heap HF.out.2.1)).trans HF.out.2.1; obtain ⟨z0, z1, z2, z3, z4⟩ := cels5 hz; have f0 := unfroz (i := 0) hz; have f1 := unfroz (i := 1) hz; have f2 := unfroz (i := 2) hz; have f3 := unfroz (i := 3) hz; have f4 := unfroz (i := 4) hz; have hm := (hb.block _ (lt_of_heap HF.out.1)).trans HF.out.1; have m0 : W2.cell? ⟨w.heap.size, 0, none⟩ = some (.slice (some ⟨g, 0, none⟩) rs.length rs.length) := (by rw [Joins.cell_of_block hm]; rfl); obtain ⟨s0, s1, s2, s3, s4⟩ := HST.out W2 (hb.mono HF.out.2.2.size); have HZ := hide (And.intro hb hz); clear hb hz hm)
    obtain ⟨v2, o2⟩ := set5 HZ.out.2 (.int .i64 Y.2.2.keep) (.string Y.2.2.add) (.int .i64 Y.2.2.drop) (.int .i64 Y.1) (.int .i64 Y.2.1) rfl
    refine bodyPost_ret (results_cell_row rfl _ _ (w.heap.size + 1 + 1 + 1) 82 _ (0, 0) _ rfl v2 Try.underlying82 rfl (by kernel_rfl)) rfl ?_
    refine ⟨by rw [HEQ.out]; rfl, (HF.out.2.2.trans (HZ.out.1.mono HF.out.2.2.size)).trans (o2.below (Nat.le_trans HF.out.2.2.size HZ.out.1.size) fun i hi => by omega)⟩

end Go.Proofs.Ytecmiphmefbpnaa.E
