/- Spans behind an edit: walked. -/
import Derived.Test.YtecmiphmefbpnaaPX
namespace Go.Proofs.Ytecmiphmefbpnaa.E
open Go.Proofs.Ytecmiphmefbpnaa Go.RowKit Go.By Go.Shelf
set_option linter.unusedVariables false
set_option linter.unusedSimpArgs false

theorem soFar_all (rs : List Rn) (l : List Sp2) (h : allB rs (l.take l.length) = true) : soFar rs l l.length = movedL rs l ∧ allB rs l = true := by
  rw [List.take_length] at h
  refine ⟨?_, h⟩
  rw [movedL, if_pos h, soFar, List.take_length, Nat.sub_self]
  simp

/-- Between two rounds. -/
def QI (W1 : World) (B g n : Nat) (va : Option Addr) (vn vc : Nat) (vi : Int) (L : List Sp2) (W : World) : Prop := OwnQ W B (.slice (some ⟨g, 0, none⟩) n n) L ∧ W.heap[W1.heap.size]? = some (.cells #[.slice va vn vc, .int .i64 vi] 55 (0, 0)) ∧ Below W1.heap.size W1 W
theorem QI.up {W1 : World} {B g n : Nat} {va : Option Addr} {vn vc : Nat} {vi : Int} {L : List Sp2} {W Y : World} (h : QI W1 B g n va vn vc vi L W) (hb : Below W.heap.size W Y) : QI W1 B g n va vn vc vi L Y :=
  ⟨h.1.below hb, (hb.block _ (lt_of_heap h.2.1)).trans h.2.1, h.2.2.trans (hb.mono h.2.2.size)⟩
theorem QI.lo {W1 : World} {B g n : Nat} {va : Option Addr} {vn vc : Nat} {vi : Int} {L : List Sp2} {W : World} (h : QI W1 B g n va vn vc vi L W) : Below W1.heap.size W1 W := h.2.2
theorem QI.box {W1 : World} {B g n : Nat} {va : Option Addr} {vn vc : Nat} {vi : Int} {L : List Sp2} {W : World} (h : QI W1 B g n va vn vc vi L W) : W.cell? ⟨W1.heap.size, 0, none⟩ = some (.slice va vn vc) ∧ W.cell? ⟨W1.heap.size, 1, none⟩ = some (.int .i64 vi) :=
  ⟨by rw [Joins.cell_of_block h.2.1]; rfl, by rw [Joins.cell_of_block h.2.1]; rfl⟩
theorem QI.put {W1 : World} {B g n k : Nat} {va : Option Addr} {vn vc : Nat} {vi : Int} {L : List Sp2} {W : World} (h : QI W1 B g n va vn vc vi L W) (hB : W1.heap.size < B) (hn : L.length = n) (hk : k < n) (v : Sp2) : QI W1 B g n va vn vc vi (L.set k v) ((W.setCell ⟨g, k * 2, none⟩ (.int .i64 v.1)).setCell ⟨g, k * 2 + 1, none⟩ (.int .i64 v.2)) := by
  have hg := h.1.facts.1
  exact ⟨h.1.put hn hk v, (heap_setCell_ne _ (by omega)).trans ((heap_setCell_ne _ (by omega)).trans h.2.1), (h.2.2.setCell (p := ⟨g, k * 2, none⟩) (by show W1.heap.size ≤ g; omega) _).setCell (p := ⟨g, k * 2 + 1, none⟩) (by show W1.heap.size ≤ g; omega) _⟩
theorem QI.at {W1 : World} {B g n k : Nat} {va : Option Addr} {vn vc : Nat} {vi : Int} {L : List Sp2} {W : World} (h : QI W1 B g n va vn vc vi L W) (hn : L.length = n) (hk : k < n) : (∃ x, W.cell? ⟨g, k * 2, none⟩ = some (.int .i64 x)) ∧ (∃ y, W.cell? ⟨g, k * 2 + 1, none⟩ = some (.int .i64 y)) ∧ W.frozen? ⟨g, k * 2, none⟩ = false ∧ W.frozen? ⟨g, k * 2 + 1, none⟩ = false := by
  obtain ⟨b, off, e, h1, h2⟩ := h.1.came.at (k := k) (by omega)
  obtain ⟨_, hf, cur, hc⟩ := h.1.facts
  rcases h.1.came with h0 | ⟨b', off', e', _, hcc⟩
  · rw [h0] at hn; simp at hn; omega
  · cases e'
    have := hcc k (by omega)
    obtain ⟨u1, u2⟩ := cellsQ_at L k (by omega)
    rcases h.1.2 with ⟨h0, _⟩ | ⟨g', cap', cur', hv, hb, hg, q1, q2, q3, q4⟩
    · cases h0
    · cases hv
      rw [← q4, List.getElem?_take] at u1 u2
      refine ⟨⟨(L.getD k sp0).1, ?_⟩, ⟨(L.getD k sp0).2, ?_⟩, hf _, hf _⟩
      · split at u1
        · rw [Joins.cell_of_block hg]; simpa using u1
        · cases u1
      · split at u2
        · rw [Joins.cell_of_block hg]; simpa using u2
        · cases u2

set_option maxRecDepth 20000 in
set_option maxHeartbeats 8000000 in
theorem spans_any (a a' : Option Addr) (cap cap' : Nat) (rs : List Rn) (l : List Sp2) (w : World) (hS : CameR w.heap.size w a rs) (hQ : CameQ w.heap.size w a' l) (hl : rs.length ≤ 1000000) (hn : l.length ≤ 1000000) :
    Calls Try.prog 13 #[.slice a rs.length cap, .slice a' l.length cap'] w fun e W' => ∃ va vc, e = .returned (.tuple #[.slice va (movedL rs l).length vc, .bool (allB rs l)]) ∧ CameQ W'.heap.size W' va (movedL rs l) ∧ Below w.heap.size w W' := by
  obtain ⟨i0, hi, hz0, hz1, hz2⟩ := info_parts (show (Try.prog.info? 24).map (fun i => (i.zero, i.size, i.bytes)) = some (some (.agg #[.int .i64 0, .int .i64 0]), 2, 16) by kernel_rfl)
  have hm := mover_span a cap rs w hS hl
  have HQ := hide hQ
  have HMZ := hide (made_zero l.length)
  clear hS hQ
  go_enter Try.func13, Try.ntmps13
  go_wp2_with (first
    | (go_at_call 26; refine hm.mono ?_; rintro e W1 ⟨va, vn, vc, vi, rfl, hb, HSP⟩; have HX1 := hide (World.alloc_heap_new W1 (.cells #[.slice va vn vc, .int .i64 vi] 55)); have HB1 := hide hb; clear hb)
    | (at_make; refine wpList_make_full _ rfl (.tmp 14) (.tmp 14) 32 rfl (W1.heap.size + 1) 24 i0 _ 2 Try.underlying32 hi hz0 hz1 .i64 .i64 (l.length : Int) (l.length : Int) l.length rfl rfl rfl rfl (by rw [hz2]; omega) (by unfold maxLen; omega) (by simp) ?_; intro W2 hown hgr; have HO2 := hide hown; have HG2 := hide hgr; clear hown hgr))
  have HQI : Hid (QI W1 (W1.heap.size + 1) (W1.heap.size + 1) l.length va vn vc vi (soFar rs l 0) W2) := hide (by
    have ho := HO2.out
    rw [World.size_alloc, HMZ.out] at ho
    have h1 := HX1.out
    have hb := (Below.refl W1.heap.size W1).alloc (Nat.le_refl _) (.cells #[.slice va vn vc, .int .i64 vi] 55)
    have hb2 : Below (W1.alloc (.cells #[.slice va vn vc, .int .i64 vi] 55)).heap.size (W1.alloc (.cells #[.slice va vn vc, .int .i64 vi] 55)) W2 := ⟨HG2.out.os, HG2.out.tape, HG2.out.output, HG2.out.size, fun k hk => HG2.out.block k hk (by simp)⟩
    have e0 : soFar rs l 0 = List.replicate l.length sp0 := by simp [soFar]
    refine ⟨?_, (hb2.block _ (lt_of_heap h1)).trans h1, hb.trans (hb2.mono hb.size)⟩
    rw [e0]
    unfold OwnQ
    rw [List.length_replicate]; exact ho)
  clear HO2 HG2 HX1 HMZ hm
  go_loopw [18] (fun s wr => ∃ k : Nat, s = .int .i64 (k : Int) ∧ k ≤ l.length ∧ Hid (allB rs (l.take k) = true ∧ QI W1 (W1.heap.size + 1) (W1.heap.size + 1) l.length va vn vc vi (soFar rs l k) wr)) (fun s _ => l.length - (intOf s).toNat)
  case atStart => exact ⟨0, rfl, by omega, hide ⟨by rw [List.take_zero]; rfl, HQI.out⟩⟩
  case round =>
    obtain ⟨k, rfl, hk, HI⟩ := hrel
    by_cases hlt : k < l.length
    · have hlt' : (k : Int) < (l.length : Int) := by omega
      have hwr : Below w.heap.size w wr := HB1.out.trans (HI.out.2.lo.mono HB1.out.size)
      obtain ⟨b, off, rfl, c0, c1⟩ := (HQ.out.below hwr).at hlt
      have HNX := hide (soFar_next rs l hlt)
      have HAT := hide (allB_take rs l hlt)
      have HAN := hide (allB_not rs l hlt)
      generalize (l.getD k sp0).1 = x at *
      generalize (l.getD k sp0).2 = y at *
      have w1 : IntKind.i64.wrap ((k : Int) + 1) = (k : Int) + 1 := wrap_one (by omega)
      have hal : Below wr.heap.size wr (wr.alloc (.cells #[.int .i64 x, .int .i64 y] 24)) := (Below.refl _ wr).alloc (Nat.le_refl _) _
      have hI2 := HI.out.2.up hal
      obtain ⟨d0, d1⟩ := hI2.box
      have hcall := HSP.out _ x y hI2.lo
      obtain ⟨r1, hr1⟩ : ∃ r1, r1 = (spanP rs x y).1 := ⟨_, rfl⟩
      obtain ⟨r2, hr2⟩ : ∃ r2, r2 = (spanP rs x y).2 := ⟨_, rfl⟩
      obtain ⟨ok, hok⟩ : ∃ ok, ok = spanB rs x y := ⟨_, rfl⟩
      have hVV : spanV rs x y = .tuple #[.agg #[.int .i64 r1, .int .i64 r2], .bool ok] := by rw [hr1, hr2, hok]; rfl
      have HPR : Hid (spanP rs x y = (r1, r2) ∧ spanB rs x y = ok) := hide ⟨by rw [hr1, hr2], hok.symm⟩
      rw [hVV] at hcall
      have HI2 := hide hI2
      have HLT := hide hlt
      have HSL := hide (soFar_len rs l (Nat.le_of_lt hlt))
      clear hal hI2 hr1 hr2 hok hVV hwr hlt hk
      cases ok with
      | true =>
        go_wp2_with (go_at_call 28; refine hcall.mono ?_; rintro e W3 ⟨rfl, hb⟩; have hI3 := HI2.out.up hb; obtain ⟨⟨z0, hz0'⟩, ⟨z1, hz1'⟩, f0, f1⟩ := hI3.at HSL.out HLT.out; have HI3 := hide (hI3.put (Nat.lt_succ_self _) HSL.out HLT.out (r1, r2)); clear hI3 hb hcall)
        go_roundw
        case rel => exact ⟨k + 1, by go_num, HLT.out, hide ⟨by rw [HAT.out, HI.out.1, HPR.out.2]; rfl, by rw [← HNX.out, HPR.out.1]; exact HI3.out⟩⟩
        case measure => simp [intOf]; have := HLT.out; omega
      | false =>
        go_wp2_with (go_at_call 28; refine hcall.mono ?_; rintro e W3 ⟨rfl, hb⟩; have hI3 := HI2.out.up hb; obtain ⟨⟨z0, hz0'⟩, ⟨z1, hz1'⟩, f0, f1⟩ := hI3.at HSL.out HLT.out; have HI3 := hide (hI3.put (Nat.lt_succ_self _) HSL.out HLT.out (r1, r2)); clear hI3 hb hcall)
        go_ret2
        have hA := HAN.out HPR.out.2
        refine ⟨none, 0, ?_, .inl ?_, HB1.out.trans (HI3.out.lo.mono HB1.out.size)⟩
        · rw [movedL, hA]; rfl
        · rw [movedL, hA]; rfl
    · obtain rfl : k = l.length := by omega
      have hlt' : ¬ (l.length : Int) < (l.length : Int) := by omega
      clear hlt hk
      go_wp2
      go_ret2
      obtain ⟨hs, hA⟩ := soFar_all rs l HI.out.1
      have hq := HI.out.2.1
      rw [hs] at hq
      have hln : (movedL rs l).length = l.length := by rw [movedL, if_pos hA, List.length_map]
      refine ⟨some ⟨W1.heap.size + 1, 0, none⟩, ⟨l.length, ?_⟩, hq.came, HB1.out.trans (HI.out.2.lo.mono HB1.out.size)⟩
      rw [hA, hln]; rfl

end Go.Proofs.Ytecmiphmefbpnaa.E
