/- The document's Insert and Delete, walked; what they make. -/
import Derived.Test.YtpmijaplkbmbiaaEdR
namespace Go.Proofs.Ytpmijaplkbmbiaa.E
open Go.Proofs.Ytpmijaplkbmbiaa Go.RowKit Go.By Go.Shelf
set_option linter.unusedVariables false
set_option linter.unusedSimpArgs false

theorem rnorm_new (w : World) (L : List Rn) (cap : Nat) (hl : L.length ≤ 400000) :
    Calls Try.prog 61 #[.slice (some ⟨w.heap.size, 0, none⟩) L.length cap] (w.alloc (.cells (cellsR L).toArray 91)) fun e W' => Gives w.heap.size w (normR L) e W' :=
  (rnorm_any _ cap L _ (came_new w L) hl).mono fun e W' ⟨a, c, he, hc, hb⟩ => ⟨a, c, he, hc, ((Below.refl _ w).alloc (Nat.le_refl _) _).trans (hb.mono (by simp))⟩

set_option maxRecDepth 20000 in
set_option maxHeartbeats 4000000 in
theorem rinsert_any (n at_ : Int) (s : ByteArray) (w : World) : Calls Try.prog 64 #[.int .i64 n, .int .i64 at_, .string s] w fun e W' => Gives2 w.heap.size w (insR n at_ s) (insE n at_ s) e W' := by
  go_enter Try.func64, Try.ntmps64
  by_cases h1 : n < 0
  · have HQ : Hid (insE n at_ s = 2) := hide (by rw [insE, if_pos (.inl h1)])
    go_wp2
    go_ret2
    exact gives2_nil (by rw [insR, HQ.out]; rfl) HQ.out.symm
  by_cases h2 : 16777216 < n
  · have HQ : Hid (insE n at_ s = 2) := hide (by rw [insE, if_pos (.inr h2)])
    go_wp2
    go_ret2
    exact gives2_nil (by rw [insR, HQ.out]; rfl) HQ.out.symm
  have w1 : IntKind.i64.wrap (16777216 - n) = 16777216 - n := by rw [IntKind.wrap_i64]; omega
  by_cases h3 : at_ < 0
  · have HQ : Hid (insE n at_ s = 30) := hide (by rw [insE, if_neg (by omega), if_pos (.inl h3)])
    go_wp2
    go_ret2
    exact gives2_nil (by rw [insR, HQ.out]; rfl) HQ.out.symm
  by_cases h4 : n < at_
  · have HQ : Hid (insE n at_ s = 30) := hide (by rw [insE, if_neg (by omega), if_pos (.inr h4)])
    go_wp2
    go_ret2
    exact gives2_nil (by rw [insR, HQ.out]; rfl) HQ.out.symm
  by_cases h5 : 16777216 - n < (s.size : Int)
  · have HQ : Hid (insE n at_ s = 31) := hide (by rw [insE, if_neg (by omega), if_neg (by omega), if_pos h5])
    go_wp2
    go_ret2
    exact gives2_nil (by rw [insR, HQ.out]; rfl) HQ.out.symm
  have w2 : IntKind.i64.wrap (n - at_) = n - at_ := by rw [IntKind.wrap_i64]; omega
  have HE : Hid (insE n at_ s = 0) := hide (by rw [insE, if_neg (by omega), if_neg (by omega), if_neg h5])
  have HR : Hid (insR n at_ s = normR (insL n at_ s)) := hide (by rw [insR, if_pos HE.out])
  have hN := rnorm_new w (insL n at_ s) 3 (by simp [insL])
  go_wp2_with (go_at_call 61; refine hN.mono ?_; rintro e W' ⟨a, c, rfl, hc, hb⟩; have HC := hide hc; have HB := hide hb; clear hc hb)
  go_ret2
  rw [HE.out, HR.out]
  exact ⟨a, c, rfl, HC.out, HB.out⟩

set_option maxRecDepth 20000 in
set_option maxHeartbeats 4000000 in
theorem rdelete_any (n at_ many : Int) (w : World) : Calls Try.prog 66 #[.int .i64 n, .int .i64 at_, .int .i64 many] w fun e W' => Gives2 w.heap.size w (delR n at_ many) (delE n at_ many) e W' := by
  go_enter Try.func66, Try.ntmps66
  by_cases h1 : n < 0
  · have HQ : Hid (delE n at_ many = 2) := hide (by rw [delE, if_pos (.inl h1)])
    go_wp2
    go_ret2
    exact gives2_nil (by rw [delR, HQ.out]; rfl) HQ.out.symm
  by_cases h2 : 16777216 < n
  · have HQ : Hid (delE n at_ many = 2) := hide (by rw [delE, if_pos (.inr h2)])
    go_wp2
    go_ret2
    exact gives2_nil (by rw [delR, HQ.out]; rfl) HQ.out.symm
  by_cases h3 : at_ < 0
  · have HQ : Hid (delE n at_ many = 30) := hide (by rw [delE, if_neg (by omega), if_pos (.inl h3)])
    go_wp2
    go_ret2
    exact gives2_nil (by rw [delR, HQ.out]; rfl) HQ.out.symm
  by_cases h4 : many < 0
  · have HQ : Hid (delE n at_ many = 30) := hide (by rw [delE, if_neg (by omega), if_pos (.inr (.inl h4))])
    go_wp2
    go_ret2
    exact gives2_nil (by rw [delR, HQ.out]; rfl) HQ.out.symm
  by_cases h6 : n < at_
  · have HQ : Hid (delE n at_ many = 30) := hide (by rw [delE, if_neg (by omega), if_pos (.inr (.inr (by omega)))])
    go_wp2
    go_ret2
    exact gives2_nil (by rw [delR, HQ.out]; rfl) HQ.out.symm
  have w1 : IntKind.i64.wrap (n - at_) = n - at_ := by rw [IntKind.wrap_i64]; omega
  by_cases h5 : n - at_ < many
  · have HQ : Hid (delE n at_ many = 30) := hide (by rw [delE, if_neg (by omega), if_pos (.inr (.inr h5))])
    go_wp2
    go_ret2
    exact gives2_nil (by rw [delR, HQ.out]; rfl) HQ.out.symm
  have w2 : IntKind.i64.wrap (n - at_ - many) = n - at_ - many := by rw [IntKind.wrap_i64]; omega
  have HE : Hid (delE n at_ many = 0) := hide (by rw [delE, if_neg (by omega), if_neg (by omega)])
  have HR : Hid (delR n at_ many = normR (delL n at_ many)) := hide (by rw [delR, if_pos HE.out])
  have hN := rnorm_new w (delL n at_ many) 3 (by simp [delL])
  go_wp2_with (go_at_call 61; refine hN.mono ?_; rintro e W' ⟨a, c, rfl, hc, hb⟩; have HC := hide hc; have HB := hide hb; clear hc hb)
  go_ret2
  rw [HE.out, HR.out]
  exact ⟨a, c, rfl, HC.out, HB.out⟩

theorem flush_le (k : Nat) (a : List UInt8) (d : Nat) : (flush k a d).length ≤ 3 := by
  rw [len_flush]; split <;> split <;> split <;> omega

theorem op_run (s : Ns) (r : Rn) : ((toks r).foldl tstep s).op.length ≤ s.op.length + 3 := by
  by_cases hk : kind r = 0
  · rw [nstep_zero hk]; omega
  rcases kind_cases hk with ⟨n, hn, rfl⟩ | ⟨a, ha, rfl⟩ | ⟨n, hn, rfl⟩
  · by_cases hs : s.a = [] ∧ s.d = 0
    · rw [nstep_keep0 hn hs]; show s.op.length ≤ _; omega
    · rw [nstep_keep1 hn hs]
      show (s.op ++ flush s.k s.a s.d).length ≤ _
      have := flush_le s.k s.a s.d
      rw [List.length_append]; omega
  · rw [nstep_add ha]; show s.op.length ≤ _; omega
  · rw [nstep_drop hn]; show s.op.length ≤ _; omega

theorem op_runs (rs : List Rn) : ∀ s, ((expand rs).foldl tstep s).op.length ≤ s.op.length + 3 * rs.length := by
  induction rs with
  | nil => intro s; exact Nat.le_add_right _ _
  | cons r rs ih =>
    intro s
    have e : expand (r :: rs) = toks r ++ expand rs := by simp [expand]
    have h1 := op_run s r
    have h2 := ih ((toks r).foldl tstep s)
    rw [e, List.foldl_append, List.length_cons]; omega

theorem len_normT (rs : List Rn) : (normT (expand rs)).length ≤ 3 * rs.length + 3 := by
  have h := op_runs rs ns0
  have h2 := flush_le (nscan (expand rs)).k (nscan (expand rs)).a (nscan (expand rs)).d
  rw [normT, nend, List.length_append]
  have h3 : (nscan (expand rs)).op.length ≤ 0 + 3 * rs.length := h
  omega

/-- Few runs, not too many bytes: what Norm makes of them. -/
theorem norm_few {rs : List Rn} (h1 : tIn (expand rs) ≤ 16777216) (h2 : tOut (expand rs) ≤ 16777216) (hl : rs.length ≤ 3) :
    (meas (normR rs)).isSome = true ∧ mIn (meas (normR rs)) = (tIn (expand rs) : Int) ∧ mOut (meas (normR rs)) = (tOut (expand rs) : Int) ∧ (normR rs).length ≤ 12 := by
  have hlen := len_normT rs
  have e : normR rs = normT (expand rs) := by rw [normR, if_pos ⟨h1, h2, by omega⟩]
  obtain ⟨j, hj⟩ := meas_normT h1 h2 (by omega)
  rw [e, hj]
  exact ⟨rfl, rfl, rfl, by omega⟩

theorem ins_sums {n at_ : Int} {s : ByteArray} (h0 : 0 ≤ at_) (h1 : at_ ≤ n) : ((tIn (expand (insL n at_ s)) : Nat) : Int) = n ∧ ((tOut (expand (insL n at_ s)) : Nat) : Int) = n + (s.size : Int) := by
  have e : expand (insL n at_ s) = List.replicate at_.toNat .K ++ (s.data.toList.map .A ++ List.replicate (n - at_).toNat .K) := by
    simp [expand, insL, toks_keep, toks_add]
  have hs : s.data.toList.length = s.size := by rw [Array.length_toList]; rfl
  rw [e, tIn_append, tIn_append, tOut_append, tOut_append, tIn_K, tIn_K, tOut_K, tOut_K, tIn_A, tOut_A, hs]
  constructor <;> omega

theorem ins_facts {n at_ : Int} {s : ByteArray} (h : insE n at_ s = 0) :
    (meas (insR n at_ s)).isSome = true ∧ mIn (meas (insR n at_ s)) = n ∧ mOut (meas (insR n at_ s)) = n + (s.size : Int) ∧ (insR n at_ s).length ≤ 12 ∧ (0 ≤ n ∧ n ≤ 16777216) ∧ ((s.size : Int) ≤ 16777216) := by
  have hr : insR n at_ s = normR (insL n at_ s) := by rw [insR, if_pos h]
  unfold insE at h
  split at h
  · omega
  split at h
  · omega
  split at h
  · omega
  rename_i a1 a2 a3
  obtain ⟨s1, s2⟩ := ins_sums (n := n) (at_ := at_) (s := s) (by omega) (by omega)
  obtain ⟨f1, f2, f3, f4⟩ := norm_few (rs := insL n at_ s) (by omega) (by omega) (by simp [insL])
  rw [hr]
  exact ⟨f1, by rw [f2, s1], by rw [f3, s2], f4, ⟨by omega, by omega⟩, by omega⟩

theorem del_sums {n at_ many : Int} (h0 : 0 ≤ at_) (h1 : 0 ≤ many) (h2 : many ≤ n - at_) : ((tIn (expand (delL n at_ many)) : Nat) : Int) = n ∧ ((tOut (expand (delL n at_ many)) : Nat) : Int) = n - many := by
  have e : expand (delL n at_ many) = List.replicate at_.toNat .K ++ (List.replicate many.toNat .D ++ List.replicate (n - at_ - many).toNat .K) := by
    simp [expand, delL, toks_keep, toks_drop]
  rw [e, tIn_append, tIn_append, tOut_append, tOut_append, tIn_K, tIn_K, tOut_K, tOut_K, tIn_D, tOut_D]
  constructor <;> omega

theorem del_facts {n at_ many : Int} (h : delE n at_ many = 0) :
    (meas (delR n at_ many)).isSome = true ∧ mIn (meas (delR n at_ many)) = n ∧ mOut (meas (delR n at_ many)) = n - many ∧ (delR n at_ many).length ≤ 12 ∧ (0 ≤ n ∧ n ≤ 16777216) ∧ 0 ≤ many ∧ many ≤ n := by
  have hr : delR n at_ many = normR (delL n at_ many) := by rw [delR, if_pos h]
  unfold delE at h
  split at h
  · omega
  split at h
  · omega
  rename_i a1 a2
  obtain ⟨s1, s2⟩ := del_sums (n := n) (at_ := at_) (many := many) (by omega) (by omega) (by omega)
  obtain ⟨f1, f2, f3, f4⟩ := norm_few (rs := delL n at_ many) (by omega) (by omega) (by simp [delL])
  rw [hr]
  exact ⟨f1, by rw [f2, s1], by rw [f3, s2], f4, ⟨by omega, by omega⟩, by omega, by omega⟩

end Go.Proofs.Ytpmijaplkbmbiaa.E
