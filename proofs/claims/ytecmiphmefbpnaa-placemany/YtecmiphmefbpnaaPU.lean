/- A span behind edits that follow each other: walked. -/
import Derived.Test.YtecmiphmefbpnaaPS
import Derived.Test.YtecmiphmefbpnaaV2
namespace Go.Proofs.Ytecmiphmefbpnaa.E
open Go.Proofs.Ytecmiphmefbpnaa Go.RowKit Go.By Go.Shelf
set_option linter.unusedVariables false
set_option linter.unusedSimpArgs false

/-- A span behind edits. -/
def overF : List Ln → Int × Int → (Int × Int) × Bool
  | [], s => (s, true)
  | x :: l, s => if spanB x.2 s.1 s.2 = true then overF l (spanP x.2 s.1 s.2) else ((0, 0), false)
theorem overF_drop {ls : List Ln} {k : Nat} {x : Ln} (h : ls[k]? = some x) (s : Int × Int) : overF (ls.drop k) s = if spanB x.2 s.1 s.2 = true then overF (ls.drop (k + 1)) (spanP x.2 s.1 s.2) else ((0, 0), false) := by
  obtain ⟨hk, hx⟩ := List.getElem?_eq_some_iff.1 h
  rw [List.drop_eq_getElem_cons hk, hx, overF]
theorem SpX.put {w : World} {f t : Int} {W : World} (h : SpX w f t W) (x y : Int) : SpX w x y ((W.setCell ⟨w.heap.size, 0, none⟩ (.int .i64 x)).setCell ⟨w.heap.size, 1, none⟩ (.int .i64 y)) := by
  have a0 := heap_setCell (i := 0) h.2.1 (.int .i64 x)
  have a1 := heap_setCell (i := 1) a0 (.int .i64 y)
  exact ⟨(h.1.setCell (p := ⟨w.heap.size, 0, none⟩) (Nat.le_refl _) _).setCell (p := ⟨w.heap.size, 1, none⟩) (Nat.le_refl _) _, by simpa using a1, (heap_setCell_ne _ (by omega)).trans ((heap_setCell_ne _ (by omega)).trans h.2.2)⟩
theorem SpX.froz {w : World} {f t : Int} {W : World} (h : SpX w f t W) : W.frozen? ⟨w.heap.size, 0, none⟩ = false ∧ W.frozen? ⟨w.heap.size, 1, none⟩ = false := ⟨unfroz h.2.1, unfroz h.2.1⟩
theorem SpX.resF {fn : Func} (hfn : fn.results = #[.cell 4 24, .tmp 5]) {w : World} {f t : Int} {W : World} (h : SpX w f t W) (x y : Int) (tmps : Array Value) (ok : Bool) (h4 : tmps.getD 4 undef = .pointer (some ⟨w.heap.size + 1, 0, none⟩)) (h5 : tmps.getD 5 undef = .bool ok) (v : Value) (hv : v = .tuple #[.agg #[.int .i64 x, .int .i64 y], .bool ok]) :
    bodyPost Try.prog fn (fun e W' => e = .returned v ∧ Below w.heap.size w W') .ret { tmps := tmps, defers := [] } ((W.setCell ⟨w.heap.size + 1, 0, none⟩ (.int .i64 x)).setCell ⟨w.heap.size + 1, 1, none⟩ (.int .i64 y)) := by
  have a0 := heap_setCell (i := 0) h.2.2 (.int .i64 x)
  have a1 := heap_setCell (i := 1) a0 (.int .i64 y)
  refine bodyPost_ret (results_ct hfn _ _ (w.heap.size + 1) 24 #[.int .i64 x, .int .i64 y] (0, 0) _ h4 (by simpa using a1) Try.underlying24 rfl (by kernel_rfl)) rfl ⟨by rw [hv, h5], ?_⟩
  exact (h.1.setCell (p := ⟨w.heap.size + 1, 0, none⟩) (by show w.heap.size ≤ w.heap.size + 1; omega) _).setCell (p := ⟨w.heap.size + 1, 1, none⟩) (by show w.heap.size ≤ w.heap.size + 1; omega) _
theorem came_lat {n₀ : Nat} {W : World} {a : Option Addr} {ls : List Ln} {k : Nat} (h : CameL n₀ W a ls) (hk : k < ls.length) : ∃ b off x, a = some ⟨b, off, none⟩ ∧ ls[k]? = some x ∧ W.cell? ⟨b, off + k, none⟩ = some (.slice x.1.1 x.2.length x.1.2) ∧ CameR n₀ W x.1.1 x.2 := by
  rcases h with rfl | ⟨b, off, e, hl, hc⟩
  · simp at hk
  · obtain ⟨h1, h2⟩ := hc k _ (List.getElem?_eq_getElem hk)
    exact ⟨b, off, _, e, List.getElem?_eq_getElem hk, h1, h2⟩
def overV (ls : List Ln) (s : Int × Int) : Value := .tuple #[.agg #[.int .i64 (overF ls s).1.1, .int .i64 (overF ls s).1.2], .bool (overF ls s).2]

set_option maxRecDepth 20000 in
set_option maxHeartbeats 8000000 in
theorem over_any (a : Option Addr) (cap : Nat) (ls : List Ln) (f t : Int) (w : World) (hS : CameL w.heap.size w a ls) (hn : ls.length ≤ 1000000) (hl : ∀ x ∈ ls, x.2.length ≤ 1000000) :
    Calls Try.prog 14 #[.slice a ls.length cap, .agg #[.int .i64 f, .int .i64 t]] w fun e W' => e = .returned (overV ls (f, t)) ∧ Below w.heap.size w W' := by
  have HS := hide hS
  have HX := hide (spx_new w f t)
  have HL := hide hl
  obtain ⟨V, hV⟩ : ∃ V, V = overF ls (f, t) := ⟨_, rfl⟩
  have HV : Hid (overV ls (f, t) = .tuple #[.agg #[.int .i64 V.1.1, .int .i64 V.1.2], .bool V.2] ∧ V = overF ls (f, t)) := hide ⟨by rw [hV]; rfl, hV⟩
  clear hS hl hV
  go_enter Try.func14, Try.ntmps14
  go_wp2
  go_loopw [11] (fun s11 wr => ∃ (k : Nat) (x y : Int), s11 = .int .i64 (k : Int) ∧ k ≤ ls.length ∧ Hid (overF (ls.drop k) (x, y) = V ∧ SpX w x y wr)) (fun s11 _ => ls.length - (intOf s11).toNat)
  case atStart => exact ⟨0, f, t, rfl, by omega, hide ⟨by rw [List.drop_zero]; exact HV.out.2.symm, HX.out⟩⟩
  case round =>
    obtain ⟨k, x, y, rfl, hk, HI⟩ := hrel
    obtain ⟨c0, c1, c2, c3, c4, c5⟩ := HI.out.2.cells
    by_cases hlt : k < ls.length
    · have hlt' : (k : Int) < (ls.length : Int) := by omega
      obtain ⟨b, off, X, rfl, hX, hcell, hcr⟩ := came_lat (HS.out.below HI.out.2.lo) hlt
      have hXl := HL.out X (List.mem_of_getElem? hX)
      have hcall := span_any X.1.1 X.1.2 X.2 x y wr (hcr.mono HI.out.2.lo.size) hXl
      have hov := overF_drop hX (x, y)
      rw [HI.out.1] at hov
      have w1 : IntKind.i64.wrap ((k : Int) + 1) = (k : Int) + 1 := wrap_one (by omega)
      obtain ⟨r1, hr1⟩ : ∃ r1, r1 = (spanP X.2 x y).1 := ⟨_, rfl⟩
      obtain ⟨r2, hr2⟩ : ∃ r2, r2 = (spanP X.2 x y).2 := ⟨_, rfl⟩
      have hVV : spanV X.2 x y = .tuple #[.agg #[.int .i64 r1, .int .i64 r2], .bool (spanB X.2 x y)] := by rw [hr1, hr2]; rfl
      have hpr : spanP X.2 x y = (r1, r2) := by rw [hr1, hr2]
      rw [hVV] at hcall
      have HLT := hide hlt
      cases hB : spanB X.2 x y with
      | true =>
        rw [hB] at hcall hov
        have HOV : Hid (overF (ls.drop (k + 1)) (r1, r2) = V) := hide (by rw [← hpr]; rw [if_pos rfl] at hov; exact hov.symm)
        clear hcr hXl hov hr1 hr2 hVV hpr hB hX hlt hk
        go_wp2_with (go_at_call 11; refine hcall.mono ?_; rintro e W2 ⟨rfl, hb⟩; have hx := HI.out.2.up hb; obtain ⟨d0, d1, -, -, -, -⟩ := hx.cells; obtain ⟨g0, g1⟩ := hx.froz; have HX2 := hide (hx.put r1 r2); clear hx hb hcall)
        go_roundw
        case rel => exact ⟨k + 1, r1, r2, by go_num, HLT.out, hide ⟨HOV.out, HX2.out⟩⟩
        case measure => simp [intOf]; have := HLT.out; omega
      | false =>
        rw [hB] at hcall hov
        have HOV : Hid (V = ((0, 0), false)) := hide (by rw [hov, if_neg (by simp)])
        clear hcr hXl hov hr1 hr2 hVV hpr hB hX hlt hk
        go_wp2_with (go_at_call 11; refine hcall.mono ?_; rintro e W2 ⟨rfl, hb⟩; have hx := HI.out.2.up hb; obtain ⟨d0, d1, -, -, -, -⟩ := hx.cells; obtain ⟨g0, g1⟩ := hx.froz; obtain ⟨-, -, n2, n3, n4, n5⟩ := (hx.put r1 r2).cells; have HX2 := hide (hx.put r1 r2); clear hx hb hcall)
        refine HX2.out.resF (by rfl) 0 0 _ false ?_ ?_ _ (by rw [HV.out.1, HOV.out]) <;> rfl
    · obtain rfl : k = ls.length := by omega
      have HD : Hid (V = ((x, y), true)) := hide (by rw [← HI.out.1, List.drop_length]; rfl)
      clear hlt hk
      go_wp2
      refine HI.out.2.resF (by rfl) x y _ true ?_ ?_ _ (by rw [HV.out.1, HD.out]) <;> rfl

end Go.Proofs.Ytecmiphmefbpnaa.E
