/- Which bytes are dropped: the document's list. -/
import Derived.Test.YtecmiphmefbpnaaPJ
namespace Go.Proofs.Ytecmiphmefbpnaa.E
open Go.Proofs.Ytecmiphmefbpnaa Go.RowKit Go.By Go.Shelf
set_option linter.unusedVariables false
set_option linter.unusedSimpArgs false

theorem dT_append (xs ys : List Tok) : dT (xs ++ ys) = dT xs ++ dT ys := by
  induction xs with
  | nil => rfl
  | cons t xs ih => cases t <;> simp [dT, ih]
theorem dT_K (n : Nat) : dT (List.replicate n .K) = List.replicate n false := by
  induction n with
  | zero => rfl
  | succ n ih => rw [List.replicate_succ, dT, ih, List.replicate_succ]
theorem dT_D (n : Nat) : dT (List.replicate n .D) = List.replicate n true := by
  induction n with
  | zero => rfl
  | succ n ih => rw [List.replicate_succ, dT, ih, List.replicate_succ]
theorem dT_A (l : List UInt8) : dT (l.map .A) = [] := by
  induction l with
  | nil => rfl
  | cons b l ih => exact ih
theorem dT_toks {r : Rn} (h : kind r ≠ 0) : dT (toks r) = List.replicate r.keep.toNat false ++ List.replicate r.drop.toNat true := by
  rw [toks, if_neg h, dT_append, dT_append, dT_K, dT_A, dT_D, List.nil_append]
theorem expand_take {rs : List Rn} {k : Nat} (hk : k < rs.length) : expand (rs.take (k + 1)) = expand (rs.take k) ++ toks (rs.getD k rn0) := by
  rw [List.take_succ_eq_append_getElem hk, expand_append, expand_one]; simp [List.getD, hk]

/-- Booleans that a call owns. -/
def OwnB (W : World) (B : Nat) (v : Value) (D : List Bool) : Prop := W.ownsRow B 4 1 v D.length (D.map Value.bool)
theorem OwnB.form {W : World} {B : Nat} {v : Value} {D : List Bool} (h : OwnB W B v D) : ∃ a cap, v = .slice a D.length cap := by
  rcases h.2 with ⟨rfl, h0⟩ | ⟨g, cap, cur, rfl, _⟩
  · exact ⟨_, _, by rw [h0]⟩
  · exact ⟨_, _, rfl⟩
/-- Booleans that lie there. -/
def BoolsAt (n₀ : Nat) (W : World) (a : Option Addr) (D : List Bool) : Prop := D = [] ∨ ∃ g, a = some ⟨g, 0, none⟩ ∧ g < n₀ ∧ ∀ i, i < D.length → W.cell? ⟨g, i, none⟩ = some (.bool (D.getD i false))
theorem OwnB.at {W : World} {B : Nat} {a : Option Addr} {n c : Nat} {D : List Bool} (h : OwnB W B (.slice a n c) D) : BoolsAt W.heap.size W a D := by
  rcases h.2 with ⟨_, h0⟩ | ⟨g, cap', cur, hv, hb, hg, h1, h2, h3, h4⟩
  · exact .inl (List.eq_nil_of_length_eq_zero h0)
  · cases hv
    refine .inr ⟨g, rfl, lt_of_heap hg, fun i hi => ?_⟩
    have e : (D.map Value.bool)[i]? = some (.bool (D.getD i false)) := by simp [List.getD, hi]
    rw [← h4, List.getElem?_take] at e
    split at e
    · rw [Joins.cell_of_block hg]; simpa using e
    · cases e
theorem BoolsAt.up {W W' : World} {a : Option Addr} {D : List Bool} (h : BoolsAt W.heap.size W a D) (hb : Below W.heap.size W W') : BoolsAt W'.heap.size W' a D :=
  h.imp id fun ⟨g, e, hl, hc⟩ => ⟨g, e, Nat.lt_of_lt_of_le hl hb.size, fun i hi => (hb.cell (p := ⟨g, i, none⟩) hl).trans (hc i hi)⟩

theorem ownB_more {wr WA W0 : World} {B gg c1 : Nat} {v : Value} {D : List Bool} {x : Bool} (h : OwnB wr B v D) (hB : B ≤ wr.heap.size) (hb : Below B W0 wr)
    (hr : WA.ownsRow B 4 1 (.slice (some ⟨gg, 0, none⟩) (D.length + 1) c1) (D.length + 1) (D.map Value.bool ++ [.bool x])) (hg : (wr.alloc (.cells #[.bool x] 4)).grownBy WA v.ownBlock) :
    OwnB WA B (.slice (some ⟨gg, 0, none⟩) (D.length + 1) c1) (D ++ [x]) ∧ Below B W0 WA := by
  refine ⟨?_, ?_⟩
  · show WA.ownsRow _ _ _ _ _ _
    rw [List.length_append, List.map_append]; exact hr
  · refine hb.trans ?_
    have h1 : Only (fun k => v.ownBlock = some k) wr WA := (Only.alloc _ wr _).trans (Only.grown hg fun k hk => hk)
    exact h1.below hB fun k hk => (ownBlock_lt h hk).1

set_option maxRecDepth 20000 in
set_option maxHeartbeats 8000000 in
theorem drops_any (a : Option Addr) (cap : Nat) (rs : List Rn) (w : World) (hS : CameR w.heap.size w a rs) (hK : ∀ x ∈ rs, kind x ≠ 0) (hl : rs.length ≤ 1000000) (hI : sI rs ≤ 16777216) :
    Calls Try.prog 20 #[.slice a rs.length cap] w fun e W' => ∃ da dc, e = .returned (.slice da (dT (expand rs)).length dc) ∧ BoolsAt W'.heap.size W' da (dT (expand rs)) ∧ Below w.heap.size w W' := by
  obtain ⟨i0, hi, hz0, hz1, hz2⟩ := info_parts (show (Try.prog.info? 4).map (fun i => (i.zero, i.size, i.bytes)) = some (some (.bool false), 1, 1) by kernel_rfl)
  have HS := hide hS
  have HK := hide hK
  clear hS hK
  go_enter Try.func20, Try.ntmps20
  go_wp2
  go_loopw [3, 4] (fun v i wr => ∃ k : Nat, i = .int .i64 (k : Int) ∧ k ≤ rs.length ∧ Hid (OwnB wr w.heap.size v (dT (expand (rs.take k))) ∧ Below w.heap.size w wr)) (fun _ i _ => rs.length - (intOf i).toNat)
  case atStart => exact ⟨0, rfl, by omega, hide ⟨⟨rfl, .inl ⟨rfl, rfl⟩⟩, Below.refl _ _⟩⟩
  case round =>
    obtain ⟨k, rfl, hk, HI⟩ := hrel
    obtain ⟨va, vc, rfl⟩ := HI.out.1.form
    by_cases hlt : k < rs.length
    · have hlt' : (k : Int) < (rs.length : Int) := by omega
      obtain ⟨b, off, rfl, s0, s1, s2⟩ := came_at (HS.out.below HI.out.2) hlt
      have hkx := kind_getD HK.out hlt
      obtain ⟨f1, f2, -, -⟩ := kind_facts hkx
      have hst := sI_up HK.out (show k + 1 ≤ rs.length from hlt)
      rw [List.take_length] at hst
      have HN : Hid (dT (expand (rs.take (k + 1))) = dT (expand (rs.take k)) ++ (List.replicate (rs.getD k rn0).keep.toNat false ++ List.replicate (rs.getD k rn0).drop.toNat true)) := hide (by rw [expand_take hlt, dT_append, dT_toks hkx])
      have hlen : ((dT (expand (rs.take k))).length : Int) + ((rs.getD k rn0).keep + (rs.getD k rn0).drop) ≤ 16777216 := by
        rw [dT_len, ← (sI_take HK.out k).1]
        have e : sI (rs.take (k + 1)) = sI (rs.take k) + ((rs.getD k rn0).keep + (rs.getD k rn0).drop) := by
          rw [List.take_succ_eq_append_getElem hlt, sI_snoc]; simp [List.getD, hlt]
        omega
      have HC : Hid (∀ W, Below w.heap.size w W → W.cell? ⟨b, off + k * 3, none⟩ = some (.int .i64 (rs.getD k rn0).keep) ∧ W.cell? ⟨b, off + k * 3 + 2, none⟩ = some (.int .i64 (rs.getD k rn0).drop)) := hide fun W hW => by
        obtain ⟨b', off', e, q0, q1, q2⟩ := came_at (HS.out.below hW) hlt
        cases e
        exact ⟨q0, q2⟩
      generalize rs.getD k rn0 = x at *
      obtain ⟨xk, xa, xd⟩ := x
      dsimp only at s0 s1 s2 f1 f2 HN hlen HC
      obtain ⟨kN, rfl⟩ := Int.eq_ofNat_of_zero_le f1
      obtain ⟨dN, rfl⟩ := Int.eq_ofNat_of_zero_le f2
      rw [Int.toNat_natCast, Int.toNat_natCast] at HN
      generalize dT (expand (rs.take k)) = D at *
      clear hkx hst s0 s1 s2 f1 f2
      go_wp2
      go_loopw [3, 5] (fun v j wr2 => ∃ j' : Nat, j = .int .i64 (j' : Int) ∧ j' ≤ kN ∧ Hid (OwnB wr2 w.heap.size v (D ++ List.replicate j' false) ∧ Below w.heap.size w wr2)) (fun _ j _ => kN - (intOf j).toNat)
      case atStart => exact ⟨0, rfl, by omega, hide ⟨by simpa using HI.out.1, HI.out.2⟩⟩
      case round =>
        obtain ⟨j, rfl, hj, HJ⟩ := hrel
        obtain ⟨E, hE⟩ : ∃ E, E = D ++ List.replicate j false := ⟨_, rfl⟩
        rw [← hE] at HJ
        have hEl : E.length = D.length + j := by rw [hE]; simp
        have HE := hide (And.intro hE hEl)
        clear hE
        obtain ⟨ua, uc, rfl⟩ := HJ.out.1.form
        obtain ⟨q0, q2⟩ := HC.out _ HJ.out.2
        by_cases hjl : j < kN
        · have hjl' : (j : Int) < (kN : Int) := by omega
          have HLEN : Hid (E.length + 1 ≤ 16777216) := hide (by omega)
          clear hEl
          have hnews : ∀ (W : World) i u, [Value.bool false][i]? = some u → (W.alloc (.cells #[.bool false] 4)).cell? ((⟨W.heap.size, 0, none⟩ : Addr).add i) = some u := fun W i u hu => World.news_of_block (cs := #[.bool false]) (World.alloc_heap_new W _) i u hu
          have hown : (wr.alloc (.cells #[.bool false] 4)).ownsRow w.heap.size 4 1 (.slice ua E.length uc) E.length (E.map Value.bool) := World.ownsRow.alloc HJ.out.1 _
          have HX := hide (And.intro hown (hnews wr))
          clear hown hnews
          go_wp2_with (at_builtin; refine wpList_append_lies _ rfl (.tmp 22) (.tmp 23) 45 rfl w.heap.size 4 i0 (.bool false) 1 1 Try.underlying45 hi hz0 hz1 hz2 rfl (by decide) (.slice ua E.length uc) E.length (E.map Value.bool) rfl HX.out.1 ⟨wr.heap.size, 0, none⟩ 1 1 [.bool false] rfl rfl HX.out.2 (by simp [Value.oneCell']) (by decide) (by have := HLEN.out; unfold maxLen; omega) (by have := HLEN.out; omega) (by have := HJ.out.2.size; simp; omega) (wr.heap.size + 1) (by simp) ?_; intro gg c1 WA hr hgr hat hltA; have HQ := hide (ownB_more HJ.out.1 HJ.out.2.size HJ.out.2 hr hgr); clear hr hgr hat hltA)
          go_roundw
          case rel => exact ⟨j + 1, by go_num, by omega, hide ⟨by have h := HQ.out.1; rw [HE.out.1, List.append_assoc, ← List.replicate_succ'] at h; rw [HE.out.1] at *; simpa using h, HQ.out.2⟩⟩
          case measure => simp [intOf]; omega
        · obtain rfl : j = kN := by omega
          clear hEl hjl
          go_wp2
          go_loopw [3, 6] (fun v i wr2 => ∃ j' : Nat, i = .int .i64 (j' : Int) ∧ j' ≤ dN ∧ Hid (OwnB wr2 w.heap.size v (E ++ List.replicate j' true) ∧ Below w.heap.size w wr2)) (fun _ i _ => dN - (intOf i).toNat)
          case atStart => exact ⟨0, rfl, by omega, hide ⟨by simpa using HJ.out.1, HJ.out.2⟩⟩
          case round =>
            obtain ⟨m, rfl, hm, HJ2⟩ := hrel
            obtain ⟨F, hF⟩ : ∃ F, F = E ++ List.replicate m true := ⟨_, rfl⟩
            rw [← hF] at HJ2
            have hFl : F.length = E.length + m := by rw [hF]; simp
            have HF := hide hF
            clear hF HJ
            have HJ := HJ2
            clear HJ2
            obtain ⟨ua, uc, rfl⟩ := HJ.out.1.form
            obtain ⟨q0, q2⟩ := HC.out _ HJ.out.2
            by_cases hml : m < dN
            · have hml' : (m : Int) < (dN : Int) := by omega
              have HLEN : Hid (F.length + 1 ≤ 16777216) := hide (by have := HE.out.2; omega)
              clear hFl
              have hnews : ∀ (W : World) i u, [Value.bool true][i]? = some u → (W.alloc (.cells #[.bool true] 4)).cell? ((⟨W.heap.size, 0, none⟩ : Addr).add i) = some u := fun W i u hu => World.news_of_block (cs := #[.bool true]) (World.alloc_heap_new W _) i u hu
              have hown : (wr.alloc (.cells #[.bool true] 4)).ownsRow w.heap.size 4 1 (.slice ua F.length uc) F.length (F.map Value.bool) := World.ownsRow.alloc HJ.out.1 _
              have HX := hide (And.intro hown (hnews wr))
              clear hown hnews
              go_wp2_with (at_builtin; refine wpList_append_lies _ rfl (.tmp 34) (.tmp 35) 45 rfl w.heap.size 4 i0 (.bool false) 1 1 Try.underlying45 hi hz0 hz1 hz2 rfl (by decide) (.slice ua F.length uc) F.length (F.map Value.bool) rfl HX.out.1 ⟨wr.heap.size, 0, none⟩ 1 1 [.bool true] rfl rfl HX.out.2 (by simp [Value.oneCell']) (by decide) (by have := HLEN.out; unfold maxLen; omega) (by have := HLEN.out; omega) (by have := HJ.out.2.size; simp; omega) (wr.heap.size + 1) (by simp) ?_; intro gg c1 WA hr hgr hat hltA; have HQ := hide (ownB_more HJ.out.1 HJ.out.2.size HJ.out.2 hr hgr); clear hr hgr hat hltA)
              go_roundw
              case rel => exact ⟨m + 1, by go_num, by omega, hide ⟨by have h := HQ.out.1; rw [HF.out, List.append_assoc, ← List.replicate_succ'] at h; rw [HF.out] at *; simpa using h, HQ.out.2⟩⟩
              case measure => simp [intOf]; omega
            · obtain rfl : m = dN := by omega
              clear hFl hml
              go_wp2
              go_roundw
              case rel => exact ⟨k + 1, by go_num, by omega, hide ⟨by rw [HN.out, ← List.append_assoc, ← HE.out.1, ← HF.out]; exact HJ.out.1, HJ.out.2⟩⟩
              case measure => simp [intOf]; omega
    · obtain rfl : k = rs.length := by omega
      have HEQ : Hid (rs.take rs.length = rs) := hide List.take_length
      go_wp2
      go_ret
      refine ⟨va, vc, ?_, ?_, HI.out.2⟩
      · rw [HEQ.out]; rfl
      · have h := HI.out.1.at; rw [HEQ.out] at h; exact h

end Go.Proofs.Ytecmiphmefbpnaa.E
