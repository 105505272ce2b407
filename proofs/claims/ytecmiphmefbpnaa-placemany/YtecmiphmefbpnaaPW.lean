/- Lists of spans: the same; moved one by one. -/
import Derived.Test.YtecmiphmefbpnaaPV
namespace Go.Proofs.Ytecmiphmefbpnaa.E
open Go.Proofs.Ytecmiphmefbpnaa Go.RowKit Go.By Go.Shelf
set_option linter.unusedVariables false
set_option linter.unusedSimpArgs false

abbrev Sp2 := Int × Int
def sp0 : Sp2 := (0, 0)
def CameQ (n₀ : Nat) (W : World) (a : Option Addr) (l : List Sp2) : Prop := l = [] ∨ ∃ b off, a = some ⟨b, off, none⟩ ∧ b < n₀ ∧ ∀ i, i < l.length → W.cell? ⟨b, off + i * 2, none⟩ = some (.int .i64 (l.getD i sp0).1) ∧ W.cell? ⟨b, off + i * 2 + 1, none⟩ = some (.int .i64 (l.getD i sp0).2)
theorem CameQ.below {n₀ : Nat} {W W' : World} {a : Option Addr} {l : List Sp2} (h : CameQ n₀ W a l) (hb : Below n₀ W W') : CameQ n₀ W' a l :=
  h.imp id fun ⟨b, off, e, hl, hc⟩ => ⟨b, off, e, hl, fun i hi => ⟨(hb.cell (p := ⟨b, _, none⟩) hl).trans (hc i hi).1, (hb.cell (p := ⟨b, _, none⟩) hl).trans (hc i hi).2⟩⟩
theorem CameQ.mono {n₀ n₁ : Nat} {W : World} {a : Option Addr} {l : List Sp2} (h : CameQ n₀ W a l) (hn : n₀ ≤ n₁) : CameQ n₁ W a l := h.imp id fun ⟨b, off, e, hl, hc⟩ => ⟨b, off, e, Nat.lt_of_lt_of_le hl hn, hc⟩
theorem CameQ.up {W W' : World} {a : Option Addr} {l : List Sp2} (h : CameQ W.heap.size W a l) (hb : Below W.heap.size W W') : CameQ W'.heap.size W' a l := (h.below hb).mono hb.size
theorem CameQ.at {n₀ : Nat} {W : World} {a : Option Addr} {l : List Sp2} (h : CameQ n₀ W a l) {k : Nat} (hk : k < l.length) : ∃ b off, a = some ⟨b, off, none⟩ ∧ W.cell? ⟨b, off + k * 2, none⟩ = some (.int .i64 (l.getD k sp0).1) ∧ W.cell? ⟨b, off + k * 2 + 1, none⟩ = some (.int .i64 (l.getD k sp0).2) := by
  rcases h with rfl | ⟨b, off, e, _, hc⟩
  · simp at hk
  · exact ⟨b, off, e, (hc k hk).1, (hc k hk).2⟩

theorem neq24 (a b : Int) (w : World) : (binOp .neq 24 (.agg #[.int .i64 a, .int .i64 b]) (.agg #[.int .i64 a, .int .i64 b])).run Try.prog w = .ok (.bool false) w := by
  have h := eq24 a b a b w
  rw [run_eql_struct, beq_self_eq_true, beq_self_eq_true] at h
  rw [run_neq_struct]
  revert h
  generalize (Op.equalIn 10000 24 (.agg #[.int .i64 a, .int .i64 b]) (.agg #[.int .i64 a, .int .i64 b])).run Try.prog w = r
  intro h
  cases r with
  | ok c w' => simp [Result.andThen] at h ⊢; obtain ⟨h1, h2⟩ := h; simp [h1, h2]
  | halt x w' => simp [Result.andThen] at h

set_option maxRecDepth 20000 in
set_option maxHeartbeats 8000000 in
theorem rsame10 (a a' : Option Addr) (c c' : Nat) (l : List Sp2) (w : World) (hS : CameQ w.heap.size w a l) (hS' : CameQ w.heap.size w a' l) (hn : l.length ≤ 1000000) :
    Calls Try.prog 16 #[.slice a l.length c, .slice a' l.length c'] w fun e W' => e = .returned (.bool true) ∧ Below w.heap.size w W' := by
  have HS := hide (And.intro hS hS')
  have HB := hide (Below.refl w.heap.size w)
  have hm : Try.prog.eqGuardType Try.prog.depth 24 = false := by kernel_rfl
  clear hS hS'
  go_enter Try.func16, Try.ntmps16
  go_wp2
  go_loopw [5] (fun s wr => ∃ k : Nat, s = .int .i64 (k : Int) ∧ k ≤ l.length ∧ Hid (Below w.heap.size w wr)) (fun s _ => l.length - (intOf s).toNat)
  case atStart => exact ⟨0, rfl, by omega, HB⟩
  case round =>
    obtain ⟨k, rfl, hk, HI⟩ := hrel
    by_cases hlt : k < l.length
    · have hlt' : (k : Int) < (l.length : Int) := by omega
      obtain ⟨b, off, rfl, c0, c1⟩ := (HS.out.1.below HI.out).at hlt
      obtain ⟨b', off', rfl, d0, d1⟩ := (HS.out.2.below HI.out).at hlt
      generalize (l.getD k sp0).1 = x at *
      generalize (l.getD k sp0).2 = y at *
      have hne := neq24 x y
      have w1 : IntKind.i64.wrap ((k : Int) + 1) = (k : Int) + 1 := wrap_one (by omega)
      have HLT := hide hlt
      clear hlt hk
      go_wp2_with fail
      go_quiet (fail)
      go_wp2
      go_roundw
      case rel => exact ⟨k + 1, by go_num, HLT.out, hide (below_drwN HI.out _)⟩
      case measure => simp [intOf]; have := HLT.out; omega
    · have hlt' : ¬ (k : Int) < (l.length : Int) := by omega
      clear hlt hk
      go_wp2
      go_ret
      exact ⟨rfl, HI.out⟩

end Go.Proofs.Ytecmiphmefbpnaa.E
