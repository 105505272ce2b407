/- Nothing, Insert, Delete; the examples. -/
import Derived.Test.YtpmijaplkbmbiaaEdK
namespace Go.Proofs.Ytpmijaplkbmbiaa.E
open Go.Proofs.Ytpmijaplkbmbiaa Go.RowKit Go.By Go.Shelf
set_option linter.unusedVariables false
set_option linter.unusedSimpArgs false

/-- Runs that lie in a block of their own. -/
theorem came_block {W : World} {H : Nat} {L : List Rn} (h : W.heap[H]? = some (.cells (cellsR L).toArray 91 (0, 0))) : CameR W.heap.size W (some ⟨H, 0, none⟩) L := by
  refine .inr ⟨H, 0, rfl, lt_of_heap h, fun i hi => ?_⟩
  have key : ∀ j u, (cells1 (L.getD i rn0))[j]? = some u → W.cell? ⟨H, 0 + i * 3 + j, none⟩ = some u := fun j u hu => by
    have e := cellsR_at L i j u hi hu
    rw [Joins.cell_of_block h, Nat.zero_add]; simpa using e
  exact ⟨by simpa using key 0 _ rfl, by simpa using key 1 _ rfl, by simpa using key 2 _ rfl⟩
theorem came_new (w : World) (L : List Rn) : CameR (w.alloc (.cells (cellsR L).toArray 91)).heap.size (w.alloc (.cells (cellsR L).toArray 91)) (some ⟨w.heap.size, 0, none⟩) L := came_block (World.alloc_heap_new w _)

theorem norm_new (w : World) (L : List Rn) (cap : Nat) (hl : L.length ≤ 1000000) :
    Calls Try.prog 60 #[.slice (some ⟨w.heap.size, 0, none⟩) L.length cap] (w.alloc (.cells (cellsR L).toArray 91)) fun e W' => Gives w.heap.size w (normR L) e W' :=
  (norm_any _ cap L _ (came_new w L) hl).mono fun e W' ⟨a, c, he, hc, hb⟩ => ⟨a, c, he, hc, ((Below.refl _ w).alloc (Nat.le_refl _) _).trans (hb.mono (by simp))⟩

theorem normT_keep (n : Nat) : normT (List.replicate n .K) = flush n [] 0 := by
  rw [normT, nscan, show ns0 = ⟨[], 0, [], 0⟩ from rfl, foldl_K0, nend, Nat.zero_add, List.nil_append]

theorem expand_one (r : Rn) : expand [r] = toks r := by simp [expand]
theorem toks_keep (n : Int) : toks ⟨n, ⟨#[]⟩, 0⟩ = List.replicate n.toNat .K := by
  by_cases h : 0 < n
  · have : (⟨n, ⟨#[]⟩, 0⟩ : Rn) = rK n.toNat := by rw [rK, Int.toNat_of_nonneg (by omega)]
    rw [this, toks_rK (by omega)]
  · rw [toks_right _ (kind_zero (fun e => h e.1) (fun e => e.2.1 nil_toList) (fun e => absurd e.2.2 (by omega))), show n.toNat = 0 by omega]; rfl
theorem toks_drop (n : Int) : toks ⟨0, ⟨#[]⟩, n⟩ = List.replicate n.toNat .D := by
  by_cases h : 0 < n
  · have : (⟨0, ⟨#[]⟩, n⟩ : Rn) = rD n.toNat := by rw [rD, Int.toNat_of_nonneg (by omega)]
    rw [this, toks_rD (by omega)]
  · rw [toks_right _ (kind_zero (fun e => absurd e.1 (by omega)) (fun e => e.2.1 nil_toList) (fun e => h e.2.2)), show n.toNat = 0 by omega]; rfl
theorem toks_add (s : ByteArray) : toks ⟨0, s, 0⟩ = s.data.toList.map .A := by
  by_cases h : s.data.toList = []
  · rw [toks_right _ (kind_zero (fun e => absurd e.1 (by omega)) (fun e => e.2.1 (by rw [toList_data]; exact h)) (fun e => absurd e.2.2 (by omega))), h]; rfl
  · have : (⟨0, s, 0⟩ : Rn) = rA s.data.toList := by rw [rA]
    rw [this, toks_rA h]

theorem norm_noth (n : Int) : normR [⟨n, ⟨#[]⟩, 0⟩] = nothR n := by
  rw [normR, expand_one, toks_keep, tIn_K, tOut_K, normT_keep, nothR]
  by_cases h : n < 1 ∨ 16777216 < n
  · rw [if_pos h]
    rcases h with h | h
    · rw [show n.toNat = 0 by omega]; rfl
    · rw [if_neg (by omega)]
  · rw [if_neg h, if_pos ⟨by omega, by omega, by rw [len_flush]; split <;> simp⟩]
    have : n.toNat ≠ 0 := by omega
    simp [flush, this, rK]
    omega

set_option maxRecDepth 20000 in
set_option maxHeartbeats 4000000 in
theorem nothing_any (n : Int) (w : World) : Calls Try.prog 67 #[.int .i64 n] w fun e W' => Gives w.heap.size w (nothR n) e W' := by
  have hN := norm_new w [⟨n, ⟨#[]⟩, 0⟩] 1 (by simp)
  go_enter Try.func67, Try.ntmps67
  go_wp2_with (go_at_call 60; refine hN.mono ?_; rintro e W' ⟨a, c, rfl, hc, hb⟩; rw [norm_noth] at hc ⊢; have HC := hide hc; have HB := hide hb; clear hc hb)
  go_ret
  exact ⟨a, c, rfl, HC.out, HB.out⟩

def insL (n at_ : Int) (s : ByteArray) : List Rn := [⟨at_, ⟨#[]⟩, 0⟩, ⟨0, s, 0⟩, ⟨n - at_, ⟨#[]⟩, 0⟩]
def insE (n at_ : Int) (s : ByteArray) : Int := if n < 0 ∨ 16777216 < n then 2 else if at_ < 0 ∨ n < at_ then 30 else if 16777216 - n < (s.size : Int) then 31 else 0
def insR (n at_ : Int) (s : ByteArray) : List Rn := if insE n at_ s = 0 then normR (insL n at_ s) else []
def delL (n at_ many : Int) : List Rn := [⟨at_, ⟨#[]⟩, 0⟩, ⟨0, ⟨#[]⟩, many⟩, ⟨n - at_ - many, ⟨#[]⟩, 0⟩]
def delE (n at_ many : Int) : Int := if n < 0 ∨ 16777216 < n then 2 else if at_ < 0 ∨ many < 0 ∨ n - at_ < many then 30 else 0
def delR (n at_ many : Int) : List Rn := if delE n at_ many = 0 then normR (delL n at_ many) else []

/-- Runs and an error are told. -/
def Gives2 (n₀ : Nat) (w : World) (rs : List Rn) (x : Int) (e : Ending) (W' : World) : Prop := ∃ a cap, e = .returned (.tuple #[.slice a rs.length cap, .int .i64 x]) ∧ CameR W'.heap.size W' a rs ∧ Below n₀ w W'

theorem gives2_nil {w : World} {rs : List Rn} {x y : Int} (h : rs = []) (hx : y = x) : Gives2 w.heap.size w rs x (.returned (.tuple #[.slice none 0 0, .int .i64 y])) w := by
  subst h; subst hx
  exact ⟨none, 0, rfl, .inl rfl, Below.refl _ _⟩

set_option maxRecDepth 20000 in
set_option maxHeartbeats 4000000 in
theorem insert_any (n at_ : Int) (s : ByteArray) (w : World) : Calls Try.prog 63 #[.int .i64 n, .int .i64 at_, .string s] w fun e W' => Gives2 w.heap.size w (insR n at_ s) (insE n at_ s) e W' := by
  go_enter Try.func63, Try.ntmps63
  by_cases h1 : n < 0
  · have HQ : Hid (insE n at_ s = 2) := hide (by rw [insE, if_pos (.inl h1)])
    go_wp2
    go_ret2
    exact gives2_nil (by rw [insR, HQ.out]; rfl) HQ.out.symm
  by_cases h2 : 16777216 < n
  · have HQ : Hid (insE n at_ s = 2) := hide (by rw [insE, if_pos (.inr h2)])
    go_wp2
    go_ret2
    exact gives2_nil (by rw [insR, HQ.out]; rfl) HQ.out.symm
  have w1 : IntKind.i64.wrap (16777216 - n) = 16777216 - n := by rw [IntKind.wrap_i64]; omega
  by_cases h3 : at_ < 0
  · have HQ : Hid (insE n at_ s = 30) := hide (by rw [insE, if_neg (by omega), if_pos (.inl h3)])
    go_wp2
    go_ret2
    exact gives2_nil (by rw [insR, HQ.out]; rfl) HQ.out.symm
  by_cases h4 : n < at_
  · have HQ : Hid (insE n at_ s = 30) := hide (by rw [insE, if_neg (by omega), if_pos (.inr h4)])
    go_wp2
    go_ret2
    exact gives2_nil (by rw [insR, HQ.out]; rfl) HQ.out.symm
  by_cases h5 : 16777216 - n < (s.size : Int)
  · have HQ : Hid (insE n at_ s = 31) := hide (by rw [insE, if_neg (by omega), if_neg (by omega), if_pos h5])
    go_wp2
    go_ret2
    exact gives2_nil (by rw [insR, HQ.out]; rfl) HQ.out.symm
  have w2 : IntKind.i64.wrap (n - at_) = n - at_ := by rw [IntKind.wrap_i64]; omega
  have HE : Hid (insE n at_ s = 0) := hide (by rw [insE, if_neg (by omega), if_neg (by omega), if_neg h5])
  have HR : Hid (insR n at_ s = normR (insL n at_ s)) := hide (by rw [insR, if_pos HE.out])
  have hN := norm_new w (insL n at_ s) 3 (by simp [insL])
  go_wp2_with (go_at_call 60; refine hN.mono ?_; rintro e W' ⟨a, c, rfl, hc, hb⟩; have HC := hide hc; have HB := hide hb; clear hc hb)
  go_ret2
  rw [HE.out, HR.out]
  exact ⟨a, c, rfl, HC.out, HB.out⟩

set_option maxRecDepth 20000 in
set_option maxHeartbeats 4000000 in
theorem delete_any (n at_ many : Int) (w : World) (ha : at_ ≤ 9223372036854775807) : Calls Try.prog 65 #[.int .i64 n, .int .i64 at_, .int .i64 many] w fun e W' => Gives2 w.heap.size w (delR n at_ many) (delE n at_ many) e W' := by
  go_enter Try.func65, Try.ntmps65
  by_cases h1 : n < 0
  · have HQ : Hid (delE n at_ many = 2) := hide (by rw [delE, if_pos (.inl h1)])
    go_wp2
    go_ret2
    exact gives2_nil (by rw [delR, HQ.out]; rfl) HQ.out.symm
  by_cases h2 : 16777216 < n
  · have HQ : Hid (delE n at_ many = 2) := hide (by rw [delE, if_pos (.inr h2)])
    go_wp2
    go_ret2
    exact gives2_nil (by rw [delR, HQ.out]; rfl) HQ.out.symm
  by_cases h3 : at_ < 0
  · have HQ : Hid (delE n at_ many = 30) := hide (by rw [delE, if_neg (by omega), if_pos (.inl h3)])
    go_wp2
    go_ret2
    exact gives2_nil (by rw [delR, HQ.out]; rfl) HQ.out.symm
  have w1 : IntKind.i64.wrap (n - at_) = n - at_ := by rw [IntKind.wrap_i64]; omega
  by_cases h4 : many < 0
  · have HQ : Hid (delE n at_ many = 30) := hide (by rw [delE, if_neg (by omega), if_pos (.inr (.inl h4))])
    go_wp2
    go_ret2
    exact gives2_nil (by rw [delR, HQ.out]; rfl) HQ.out.symm
  by_cases h5 : n - at_ < many
  · have HQ : Hid (delE n at_ many = 30) := hide (by rw [delE, if_neg (by omega), if_pos (.inr (.inr h5))])
    go_wp2
    go_ret2
    exact gives2_nil (by rw [delR, HQ.out]; rfl) HQ.out.symm
  have w2 : IntKind.i64.wrap (n - at_ - many) = n - at_ - many := by rw [IntKind.wrap_i64]; omega
  have HE : Hid (delE n at_ many = 0) := hide (by rw [delE, if_neg (by omega), if_neg (by omega)])
  have HR : Hid (delR n at_ many = normR (delL n at_ many)) := hide (by rw [delR, if_pos HE.out])
  have hN := norm_new w (delL n at_ many) 3 (by simp [delL])
  go_wp2_with (go_at_call 60; refine hN.mono ?_; rintro e W' ⟨a, c, rfl, hc, hb⟩; have HC := hide hc; have HB := hide hb; clear hc hb)
  go_ret2
  rw [HE.out, HR.out]
  exact ⟨a, c, rfl, HC.out, HB.out⟩

theorem lives_one : insE 2 1 ⟨#[120]⟩ = 0 ∧ insR 2 1 ⟨#[120]⟩ = [⟨1, ⟨#[]⟩, 0⟩, ⟨0, ⟨#[120]⟩, 0⟩, ⟨1, ⟨#[]⟩, 0⟩] := by
  have h0 : insE 2 1 ⟨#[120]⟩ = 0 := by decide
  refine ⟨h0, ?_⟩
  rw [insR, if_pos h0, normR]
  have e : expand (insL 2 1 ⟨#[120]⟩) = [.K, .A 120, .K] := by
    simp [expand, insL, toks_keep, toks_add]
  rw [e]
  rfl
theorem lives_two : normR [⟨0, ⟨#[]⟩, 1⟩, ⟨0, ⟨#[120]⟩, 0⟩, ⟨0, ⟨#[]⟩, 2⟩] = [⟨0, ⟨#[120]⟩, 0⟩, ⟨0, ⟨#[]⟩, 3⟩] := by
  rw [normR]
  have e : expand [⟨0, ⟨#[]⟩, 1⟩, ⟨0, ⟨#[120]⟩, 0⟩, ⟨0, ⟨#[]⟩, 2⟩] = [.D, .A 120, .D, .D] := by
    simp [expand, toks_drop, toks_add, List.replicate]
  rw [e]
  rfl

end Go.Proofs.Ytpmijaplkbmbiaa.E
