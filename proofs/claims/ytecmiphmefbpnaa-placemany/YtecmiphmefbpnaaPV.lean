/- The document's Over: walked. -/
import Derived.Test.YtecmiphmefbpnaaPU
namespace Go.Proofs.Ytecmiphmefbpnaa.E
open Go.Proofs.Ytecmiphmefbpnaa Go.RowKit Go.By Go.Shelf
set_option linter.unusedVariables false
set_option linter.unusedSimpArgs false

def Box24 (W : World) (q : Nat) (x y : Int) : Prop := W.heap[q]? = some (.cells #[.int .i64 x, .int .i64 y] 24 (0, 0))
theorem Box24.up {W Y : World} {q : Nat} {x y : Int} (h : Box24 W q x y) (hb : Below W.heap.size W Y) : Box24 Y q x y := box2_up h hb
theorem Box24.drew {W : World} {q : Nat} {x y : Int} (h : Box24 W q x y) : Box24 W.drew q x y := h
theorem Box24.facts {W : World} {q : Nat} {x y : Int} (h : Box24 W q x y) : W.cell? ⟨q, 0, none⟩ = some (.int .i64 x) ∧ W.cell? ⟨q, 1, none⟩ = some (.int .i64 y) ∧ W.frozen? ⟨q, 0, none⟩ = false ∧ W.frozen? ⟨q, 1, none⟩ = false :=
  ⟨by rw [Joins.cell_of_block h]; rfl, by rw [Joins.cell_of_block h]; rfl, unfroz h, unfroz h⟩
theorem box24_new (W : World) (x y : Int) : Box24 (W.alloc (.cells #[.int .i64 x, .int .i64 y] 24)) W.heap.size x y := World.alloc_heap_new W _
theorem Box24.set {W : World} {q : Nat} {x y : Int} (h : Box24 W q x y) (x' y' : Int) : Box24 ((W.setCell ⟨q, 0, none⟩ (.int .i64 x')).setCell ⟨q, 1, none⟩ (.int .i64 y')) q x' y' := by
  have a0 := heap_setCell (i := 0) h (.int .i64 x')
  have a1 := heap_setCell (i := 1) a0 (.int .i64 y')
  show _ = _
  simpa using a1
theorem SpX.alloc {w : World} {f t : Int} {W : World} (h : SpX w f t W) (o : Obj) : SpX w f t (W.alloc o) := h.up ((Below.refl _ W).alloc (Nat.le_refl _) o)
theorem SpX.other {w : World} {f t : Int} {W : World} (h : SpX w f t W) {q : Nat} (hq : w.heap.size + 1 < q) (x' y' : Int) : SpX w f t ((W.setCell ⟨q, 0, none⟩ (.int .i64 x')).setCell ⟨q, 1, none⟩ (.int .i64 y')) :=
  ⟨(h.1.setCell (p := ⟨q, 0, none⟩) (by show w.heap.size ≤ q; omega) _).setCell (p := ⟨q, 1, none⟩) (by show w.heap.size ≤ q; omega) _, (heap_setCell_ne _ (by omega)).trans ((heap_setCell_ne _ (by omega)).trans h.2.1), (heap_setCell_ne _ (by omega)).trans ((heap_setCell_ne _ (by omega)).trans h.2.2)⟩
theorem SpX.lt {w : World} {f t : Int} {W : World} (h : SpX w f t W) : w.heap.size + 1 < W.heap.size := lt_of_heap h.2.2
/-- The second span's box. -/
def TBox (w : World) (x y r1 r2 : Int) (W : World) (q : Nat) : Prop := w.heap.size + 1 < q ∧ Box24 W q r1 r2 ∧ SpX w x y W

set_option maxRecDepth 20000 in
set_option maxHeartbeats 8000000 in
theorem rover_any (a : Option Addr) (cap : Nat) (ls : List Ln) (f t : Int) (w : World) (hS : CameL w.heap.size w a ls) (hn : ls.length ≤ 1000000) (hl : ∀ x ∈ ls, x.2.length ≤ 1000000) :
    Calls Try.prog 15 #[.slice a ls.length cap, .agg #[.int .i64 f, .int .i64 t]] w fun e W' => e = .returned (overV ls (f, t)) ∧ Below w.heap.size w W' := by
  have HS := hide hS
  have HX := hide (spx_new w f t)
  have HL := hide hl
  obtain ⟨V, hV⟩ : ∃ V, V = overF ls (f, t) := ⟨_, rfl⟩
  have HV : Hid (overV ls (f, t) = .tuple #[.agg #[.int .i64 V.1.1, .int .i64 V.1.2], .bool V.2] ∧ V = overF ls (f, t)) := hide ⟨by rw [hV]; rfl, hV⟩
  clear hS hl hV
  go_enter Try.func15, Try.ntmps15
  go_wp2
  go_loopw [6] (fun s11 wr => ∃ (k : Nat) (x y : Int), s11 = .int .i64 (k : Int) ∧ k ≤ ls.length ∧ Hid (overF (ls.drop k) (x, y) = V ∧ SpX w x y wr)) (fun s11 _ => ls.length - (intOf s11).toNat)
  case atStart => exact ⟨0, f, t, rfl, by omega, hide ⟨by rw [List.drop_zero]; exact HV.out.2.symm, HX.out⟩⟩
  case round =>
    obtain ⟨k, x, y, rfl, hk, HI⟩ := hrel
    by_cases hlt : k < ls.length
    · have hlt' : (k : Int) < (ls.length : Int) := by omega
      obtain ⟨b, off, X, rfl, hX, hcell, hcr⟩ := came_lat (HS.out.below HI.out.2.lo) hlt
      have hXl := HL.out X (List.mem_of_getElem? hX)
      have hov := overF_drop hX (x, y)
      rw [HI.out.1] at hov
      have w1 : IntKind.i64.wrap ((k : Int) + 1) = (k : Int) + 1 := wrap_one (by omega)
      obtain ⟨r1, hr1⟩ : ∃ r1, r1 = (spanP X.2 x y).1 := ⟨_, rfl⟩
      obtain ⟨r2, hr2⟩ : ∃ r2, r2 = (spanP X.2 x y).2 := ⟨_, rfl⟩
      obtain ⟨ok, hok⟩ : ∃ ok, ok = spanB X.2 x y := ⟨_, rfl⟩
      have hVV : spanV X.2 x y = .tuple #[.agg #[.int .i64 r1, .int .i64 r2], .bool ok] := by rw [hr1, hr2, hok]; rfl
      have hpr : spanP X.2 x y = (r1, r2) := by rw [hr1, hr2]
      have HCALL : Hid (∀ W, Below wr.heap.size wr W → Calls Try.prog 12 #[.slice X.1.1 X.2.length X.1.2, .agg #[.int .i64 x, .int .i64 y]] W fun e W' => e = .returned (.tuple #[.agg #[.int .i64 r1, .int .i64 r2], .bool ok]) ∧ Below W.heap.size W W') := hide fun W h => by
        rw [← hVV]; exact rspan_any X.1.1 X.1.2 X.2 x y W (((hcr.below (h.mono HI.out.2.lo.size)).mono HI.out.2.lo.size).mono h.size) hXl
      rw [← hok, hpr] at hov
      have HOV := hide hov
      have HLT := hide hlt
      have c0 : wr.drew.cell? ⟨w.heap.size, 0, none⟩ = some (.int .i64 x) := HI.out.2.drew.cells.1
      have c1 : wr.drew.cell? ⟨w.heap.size, 1, none⟩ = some (.int .i64 y) := HI.out.2.drew.cells.2.1
      have hcd : wr.drew.cell? ⟨b, off + k, none⟩ = some (.slice X.1.1 X.2.length X.1.2) := hcell
      have ca0 : (wr.alloc (.cells #[.int .i64 0, .int .i64 0] 24)).drew.cell? ⟨w.heap.size, 0, none⟩ = some (.int .i64 x) := (HI.out.2.alloc (.cells #[.int .i64 0, .int .i64 0] 24)).drew.cells.1
      have ca1 : (wr.alloc (.cells #[.int .i64 0, .int .i64 0] 24)).drew.cell? ⟨w.heap.size, 1, none⟩ = some (.int .i64 y) := (HI.out.2.alloc (.cells #[.int .i64 0, .int .i64 0] 24)).drew.cells.2.1
      have hcda : (wr.alloc (.cells #[.int .i64 0, .int .i64 0] 24)).drew.cell? ⟨b, off + k, none⟩ = some (.slice X.1.1 X.2.length X.1.2) := (((Below.refl _ wr).alloc (Nat.le_refl _) _).cell (p := ⟨b, off + k, none⟩) (by have := World.block_lt_of_cell? wr _ hcell; exact this)).trans hcell
      have HWB : Hid (Below wr.heap.size wr wr.drew ∧ Below wr.heap.size wr (wr.alloc (.cells #[.int .i64 0, .int .i64 0] 24)).drew) := hide ⟨below_drw (Below.refl _ wr), below_drw ((Below.refl _ wr).alloc (Nat.le_refl _) _)⟩
      clear hcr hXl hov hr1 hr2 hok hVV hpr hX hlt hk hcell
      generalize X.1.1 = xa at *
      generalize X.1.2 = xc at *
      generalize X.2.length = xn at *
      go_wp2_with fail
      go_cut [7, 8] from 15 to 23 (fun s7 s8 wc => Hid (∃ q, s7 = .pointer (some ⟨q, 0, none⟩) ∧ s8 = .bool ok ∧ TBox w x y r1 r2 wc q))
      case first =>
        go_region_with (first
          | (go_at_call 12; (with_reducible refine (HCALL.out _ HWB.out.1).mono ?_); rintro e W2 ⟨rfl, hb⟩; have HA1 := hide (HI.out.2.drew.up hb); clear hb)
          | (go_at_call 12; (with_reducible refine (HCALL.out _ HWB.out.2).mono ?_); rintro e W2 ⟨rfl, hb⟩; have hz := (box24_new wr 0 0).drew.up hb; obtain ⟨z0, z1, z2, z3⟩ := hz.facts; have HA2 := hide (And.intro ((HI.out.2.alloc (.cells #[.int .i64 0, .int .i64 0] 24)).drew.up hb) hz); clear hb hz))
        all_goals (go_wp2_with fail; go_meet)
        all_goals first
          | exact ⟨W2.heap.size, rfl, rfl, HA1.out.lt, box24_new W2 r1 r2, HA1.out.alloc _⟩
          | exact ⟨wr.heap.size, rfl, rfl, HI.out.2.lt, HA2.out.2.set r1 r2, HA2.out.1.other HI.out.2.lt r1 r2⟩
      case rest =>
        obtain ⟨q, rfl, rfl, hT⟩ := hcut.out
        obtain ⟨e0, e1, -, -⟩ := hT.2.1.facts
        obtain ⟨d0, d1, d2, d3, d4, d5⟩ := hT.2.2.cells
        obtain ⟨g0, g1⟩ := hT.2.2.froz
        have HT := hide hT
        clear hT hcut HWB c0 c1 hcd ca0 ca1 hcda
        cases ok with
        | true =>
          have HOV2 : Hid (overF (ls.drop (k + 1)) (r1, r2) = V) := hide (by have := HOV.out; rw [if_pos rfl] at this; exact this.symm)
          clear HOV
          go_wp2
          go_roundw
          case rel => exact ⟨k + 1, r1, r2, by go_num, HLT.out, hide ⟨HOV2.out, HT.out.2.2.put r1 r2⟩⟩
          case measure => simp [intOf]; have := HLT.out; omega
        | false =>
          have HOV2 : Hid (V = ((0, 0), false)) := hide (by have := HOV.out; rw [if_neg (by simp)] at this; exact this)
          clear HOV
          go_wp2
          refine HT.out.2.2.resF (by rfl) 0 0 _ false ?_ ?_ _ (by rw [HV.out.1, HOV2.out]) <;> rfl
    · obtain rfl : k = ls.length := by omega
      obtain ⟨c0, c1, c2, c3, c4, c5⟩ := HI.out.2.cells
      have HD : Hid (V = ((x, y), true)) := hide (by rw [← HI.out.1, List.drop_length]; rfl)
      clear hlt hk
      go_wp2
      refine HI.out.2.resF (by rfl) x y _ true ?_ ?_ _ (by rw [HV.out.1, HD.out]) <;> rfl

end Go.Proofs.Ytecmiphmefbpnaa.E
