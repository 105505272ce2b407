/- The document's units of an edit: byte by byte. -/
import Derived.Test.YtpmijaplkbmbiaaX4
namespace Go.Proofs.Ytpmijaplkbmbiaa.E
open Go.Proofs.Ytpmijaplkbmbiaa Go.RowKit Go.By Go.Shelf
set_option linter.unusedVariables false
set_option linter.unusedSimpArgs false

/-- A unit of the document: a byte that keeps, comes, or goes. -/
def kindT : Tok → Int
  | .K => 1
  | .A _ => 2
  | .D => 3
def addT : Tok → ByteArray
  | .A b => ⟨#[b]⟩
  | _ => ⟨#[]⟩
def cellsU (ts : List Tok) : List Value := ts.flatMap fun t => [.int .i64 (kindT t), .string (addT t)]
theorem cellsU_append (a b : List Tok) : cellsU (a ++ b) = cellsU a ++ cellsU b := by simp [cellsU]
theorem length_cellsU (ts : List Tok) : (cellsU ts).length = ts.length * 2 := by
  induction ts with
  | nil => rfl
  | cons t ts ih => rw [show cellsU (t :: ts) = .int .i64 (kindT t) :: .string (addT t) :: cellsU ts from rfl, List.length_cons, List.length_cons, ih, List.length_cons]; omega
theorem oneCellU (ts : List Tok) : ∀ u ∈ cellsU ts, u.oneCell' = true := by
  intro u hu
  obtain ⟨t, _, ht⟩ := List.mem_flatMap.1 hu
  rcases List.mem_cons.1 ht with rfl | ht
  · rfl
  · rcases List.mem_cons.1 ht with rfl | ht
    · rfl
    · cases ht
/-- Units that a call owns. -/
def OwnU (W : World) (B : Nat) (v : Value) (ts : List Tok) : Prop := W.ownsRow B 162 2 v ts.length (cellsU ts)
theorem OwnU.nil (W : World) (B : Nat) : OwnU W B (.slice none 0 0) [] := ⟨rfl, .inl ⟨rfl, rfl⟩⟩
theorem OwnU.form {W : World} {B : Nat} {v : Value} {ts : List Tok} (h : OwnU W B v ts) : ∃ a cap, v = .slice a ts.length cap := by
  rcases h.2 with ⟨rfl, h0⟩ | ⟨g, cap, cur, rfl, _⟩
  · exact ⟨_, _, by rw [h0]⟩
  · exact ⟨_, _, rfl⟩
theorem OwnU.lt {W : World} {B : Nat} {v : Value} {ts : List Tok} (h : OwnU W B v ts) {q : Nat} (hq : v.ownBlock = some q) : B ≤ q ∧ ∃ cur, W.heap[q]? = some (.cells cur 162 (0, 0)) := by
  rcases h.2 with ⟨rfl, _⟩ | ⟨g, cap, cur, rfl, hb, hg, _⟩
  · cases hq
  · obtain rfl : g = q := by simpa [Value.ownBlock] using hq
    exact ⟨hb, cur, hg⟩
theorem OwnU.kept {W W' : World} {B : Nat} {v : Value} {ts : List Tok} (h : OwnU W B v ts) (hk : ∀ q, v.ownBlock = some q → W'.heap[q]? = W.heap[q]?) : OwnU W' B v ts := by
  refine ⟨h.1, h.2.imp id ?_⟩
  rintro ⟨g, cap, cur, hv, hb, hg, r⟩
  exact ⟨g, cap, cur, hv, hb, (hk g (by rw [hv]; rfl)).trans hg, r⟩
theorem OwnU.up {W W' : World} {B : Nat} {v : Value} {ts : List Tok} (h : OwnU W B v ts) (hb : Below W.heap.size W W') : OwnU W' B v ts :=
  h.kept fun q hq => by obtain ⟨_, cur, e⟩ := h.lt hq; exact hb.block q (lt_of_heap e)
theorem ownU_snoc {W : World} {B : Nat} {v : Value} {L : List Tok} {t : Tok} (h : W.ownsRow B 162 2 v (L.length + 1) (cellsU L ++ cellsU [t])) : OwnU W B v (L ++ [t]) := by
  unfold OwnU
  rw [cellsU_append, List.length_append]
  exact h
theorem cells_unit (X : World) (t : Tok) (j : Nat) (u : Value) (h : (cellsU [t])[j]? = some u) : (X.alloc (.cells #[.int .i64 (kindT t), .string (addT t)] 162)).cell? ((⟨X.heap.size, 0, none⟩ : Addr).add j) = some u :=
  World.news_of_block (cs := #[.int .i64 (kindT t), .string (addT t)]) (World.alloc_heap_new X _) j u h

/-- One unit is put behind others: the box of the run at hand lies as it lay. -/
theorem unit_next {w X w3 : World} {B q : Nat} {v v1 : Value} {L : List Tok} {t : Tok} {cs : Array Value} (hB : B ≤ w.heap.size) (hbw : Below B w X) (hvo : OwnU X B v L) (hq : X.heap[q]? = some (.cells cs 91 (0, 0)))
    (hg : (X.alloc (.cells #[.int .i64 (kindT t), .string (addT t)] 162)).grownBy w3 v.ownBlock) (hr : w3.ownsRow B 162 2 v1 (L.length + 1) (cellsU L ++ cellsU [t])) :
    OwnU w3 B v1 (L ++ [t]) ∧ Below B w w3 ∧ w3.heap[q]? = some (.cells cs 91 (0, 0)) := by
  have hal : Below X.heap.size X (X.alloc (.cells #[.int .i64 (kindT t), .string (addT t)] 162)) := Joins.below_alloc1 _ _
  have hX : B ≤ X.heap.size := Nat.le_trans hB hbw.size
  refine ⟨ownU_snoc hr, hbw.trans (((only_b hal).trans (Only.grown (S := fun k => v.ownBlock = some k) hg fun k hk => hk)).below hX fun k hk => (hvo.lt hk).1), ?_⟩
  refine (hg.block q (Nat.lt_of_lt_of_le (lt_of_heap hq) hal.size) fun e => ?_).trans ((hal.block q (lt_of_heap hq)).trans hq)
  obtain ⟨_, cur, e2⟩ := hvo.lt e.symm
  rw [hq] at e2
  cases e2
where
  only_b {S : Nat → Prop} {w w' : World} (h : Below w.heap.size w w') : Only S w w' := ⟨h.os, h.tape, h.output, h.size, fun k hk _ => h.block k hk⟩

theorem ext_one {s : ByteArray} {k : Nat} (h : k < s.size) : s.extract k (k + 1) = addT (.A (s.data.toList.getD k 0)) := by
  apply ba_eqU
  rw [ByteArray.data_extract]
  have hl : k < s.data.toList.length := by rw [Array.length_toList]; exact h
  show (s.data.extract k (k + 1)).toList = [s.data.toList.getD k 0]
  rw [Array.toList_extract, List.extract_eq_take_drop, Nat.add_sub_cancel_left, List.drop_eq_getElem_cons hl]
  have hk : k < s.data.size := h
  simp only [List.take_succ_cons, List.take_zero, List.getD, List.getElem?_eq_getElem hl, Option.getD_some]
where
  ba_eqU {a b : ByteArray} (h : a.data.toList = b.data.toList) : a = b := by
    cases a; cases b; simp only [Array.toList_inj] at h; rw [h]

set_option maxRecDepth 100000 in
set_option maxHeartbeats 2000000 in
theorem units_any (a : Option Addr) (cap : Nat) (rs : List Rn) (w : World) (hS : CameR w.heap.size w a rs) (hK : ∀ x ∈ rs, kind x ≠ 0) (hl : rs.length ≤ 100000) (ht : (expand rs).length ≤ 100000) :
    Calls Try.prog 119 #[.slice a rs.length cap] w fun e W' => ∃ v, e = .returned v ∧ OwnU W' w.heap.size v (expand rs) ∧ Below w.heap.size w W' := by
  obtain ⟨i0, hi, hz0, hz1, hz2⟩ := info_parts (show (Try.prog.info? 162).map (fun i => (i.zero, i.size, i.bytes)) = some (some (.agg #[.int .i64 0, .string ⟨#[]⟩]), 2, 24) by kernel_rfl)
  have HS := hide hS
  have HKI := hide hK
  have HT := hide ht
  have HL := hide hl
  clear hS hK ht hl
  go_enter Try.func119, Try.ntmps119
  go_wp2_with fail
  go_loopw [3, 4] (fun u i wr => ∃ k : Nat, i = .int .i64 (k : Int) ∧ k ≤ rs.length ∧ Hid (OwnU wr w.heap.size u (expand (rs.take k)) ∧ Below w.heap.size w wr)) (fun _ i _ => rs.length - (intOf i).toNat)
  case atStart => exact ⟨0, rfl, by omega, hide ⟨OwnU.nil _ _, Below.refl _ _⟩⟩
  case round =>
    obtain ⟨k, rfl, hk, HI⟩ := hrel
    obtain ⟨ua, uc, rfl⟩ := HI.out.1.form
    by_cases hlt : k < rs.length
    · have hlt' : (k : Int) < (rs.length : Int) := by omega
      obtain ⟨b, off, rfl, s0, s1, s2⟩ := came_at (HS.out.below HI.out.2) hlt
      have hkx : kind (rs.getD k rn0) ≠ 0 := HKI.out _ (by simp [List.getD, hlt])
      have hsn : rs.take (k + 1) = rs.take k ++ [rs.getD k rn0] := by rw [List.take_succ_eq_append_getElem hlt]; simp [List.getD, hlt]
      have hall : expand rs = expand (rs.take (k + 1)) ++ expand (rs.drop (k + 1)) := by rw [← expand_append, List.take_append_drop]
      have hex := congrArg expand hsn
      rw [expand_snoc, toks, if_neg hkx] at hex
      obtain ⟨kf1, kf2, _, _⟩ := kind_facts hkx
      generalize rs.getD k rn0 = x at *
      obtain ⟨xk, xa, xd⟩ := x
      dsimp only at s0 s1 s2 kf1 kf2 hex
      obtain ⟨kN, rfl⟩ := Int.eq_ofNat_of_zero_le kf1
      obtain ⟨dN, rfl⟩ := Int.eq_ofNat_of_zero_le kf2
      rw [Int.toNat_natCast, Int.toNat_natCast] at hex
      have HEX := hide hex
      have hlen : (expand (rs.take k)).length + kN + xa.size + dN ≤ 100000 := by
        have h1 := congrArg List.length hall
        have h2 := congrArg List.length hex
        simp only [List.length_append, List.length_replicate, List.length_map, Array.length_toList] at h1 h2
        have h3 : xa.data.size = xa.size := rfl
        have := HT.out
        omega
      have HLE := hide hlen
      have HLT := hide hlt
      have w6 : IntKind.i64.wrap ((k : Int) + 1) = (k : Int) + 1 := by rw [IntKind.wrap_i64]; have := HL.out; omega
      have hq0 := World.alloc_heap_new wr (.cells #[.int .i64 (kN : Int), .string xa, .int .i64 (dN : Int)] 91)
      have HST : Hid (OwnU (wr.alloc (.cells #[.int .i64 (kN : Int), .string xa, .int .i64 (dN : Int)] 91)) w.heap.size (.slice ua (expand (rs.take k)).length uc) (expand (rs.take k)) ∧ Below w.heap.size w (wr.alloc (.cells #[.int .i64 (kN : Int), .string xa, .int .i64 (dN : Int)] 91)) ∧ (wr.alloc (.cells #[.int .i64 (kN : Int), .string xa, .int .i64 (dN : Int)] 91)).heap[wr.heap.size]? = some (.cells #[.int .i64 (kN : Int), .string xa, .int .i64 (dN : Int)] 91 (0, 0))) :=
        hide ⟨HI.out.1.up (Joins.below_alloc1 _ _), HI.out.2.trans ((Joins.below_alloc1 wr _).mono HI.out.2.size), hq0⟩
      clear hkx hsn hall hex hlen hq0 kf1 kf2
      generalize hP : expand (rs.take k) = P at *
      go_wp2_with fail
      generalize wr.heap.size = q at *
      go_loopw [3, 6] (fun u j wr => ∃ jn : Nat, j = .int .i64 (jn : Int) ∧ jn ≤ kN ∧ Hid (OwnU wr w.heap.size u (P ++ List.replicate jn Tok.K) ∧ Below w.heap.size w wr ∧ wr.heap[q]? = some (.cells #[.int .i64 (kN : Int), .string xa, .int .i64 (dN : Int)] 91 (0, 0)))) (fun _ j _ => kN - (intOf j).toNat)
      case atStart => exact ⟨0, rfl, Nat.zero_le _, hide (by rw [List.replicate_zero, List.append_nil]; exact HST.out)⟩
      case round =>
        obtain ⟨jn, rfl, hjk, HJ⟩ := hrel
        obtain ⟨ub, ud, rfl⟩ := HJ.out.1.form
        have c0 : wr.cell? ⟨q, 0, none⟩ = some (.int .i64 (kN : Int)) := by rw [Joins.cell_of_block HJ.out.2.2]; rfl
        have c1 : wr.cell? ⟨q, 1, none⟩ = some (.string xa) := by rw [Joins.cell_of_block HJ.out.2.2]; rfl
        have c2 : wr.cell? ⟨q, 2, none⟩ = some (.int .i64 (dN : Int)) := by rw [Joins.cell_of_block HJ.out.2.2]; rfl
        by_cases hj : jn < kN
        · have hj' : (jn : Int) < (kN : Int) := by omega
          have w7 : IntKind.i64.wrap ((jn : Int) + 1) = (jn : Int) + 1 := by rw [IntKind.wrap_i64]; have := HLE.out; omega
          have HM : Hid ((P ++ List.replicate jn Tok.K).length ≤ 100000) := hide (by have := HLE.out; simp only [List.length_append, List.length_replicate, List.length_map, List.length_take, Array.length_toList]; have h3 : xa.data.size = xa.size := rfl; omega)
          have HS1 : Hid ((P ++ List.replicate jn Tok.K) ++ [Tok.K] = P ++ List.replicate (jn + 1) Tok.K) := hide (by rw [List.append_assoc]; congr 1; rw [List.replicate_succ'])
          generalize P ++ List.replicate jn Tok.K = L1 at *
          have HOW : Hid ((wr.alloc (.cells #[.int .i64 1, .string ⟨#[]⟩] 162)).ownsRow w.heap.size 162 2 (.slice ub L1.length ud) L1.length (cellsU L1)) := hide (World.ownsRow.alloc HJ.out.1 _)
          have HNEW : Hid (∀ i u, (cellsU [Tok.K])[i]? = some u → (wr.alloc (.cells #[.int .i64 1, .string ⟨#[]⟩] 162)).cell? ((⟨wr.heap.size, 0, none⟩ : Addr).add i) = some u) := hide (by exact fun i u hu => cells_unit wr Tok.K i u hu)
          have HNX : Hid (∀ w3 v1, (wr.alloc (.cells #[.int .i64 1, .string ⟨#[]⟩] 162)).grownBy w3 (Value.slice ub L1.length ud).ownBlock → w3.ownsRow w.heap.size 162 2 v1 (L1.length + 1) (cellsU L1 ++ cellsU [Tok.K]) → OwnU w3 w.heap.size v1 (L1 ++ [Tok.K]) ∧ Below w.heap.size w w3 ∧ w3.heap[q]? = some (.cells #[.int .i64 (kN : Int), .string xa, .int .i64 (dN : Int)] 91 (0, 0))) := hide fun w3 v1 hg hr => unit_next (t := Tok.K) (Nat.le_refl _) HJ.out.2.1 HJ.out.1 HJ.out.2.2 (by exact hg) hr
          have HSZ := hide HJ.out.2.1.size
          clear HJ
          go_wp2_with (at_builtin; refine wpList_append_own _ rfl (.tmp 25) (.tmp 27) 159 rfl w.heap.size 162 i0 (.agg #[.int .i64 0, .string ⟨#[]⟩]) 2 24 Try.underlying159 hi hz0 hz1 hz2 rfl (by decide) _ _ _ rfl HOW.out ⟨_, 0, none⟩ 1 1 _ rfl rfl HNEW.out (oneCellU _) (by have := HM.out; unfold maxLen; omega) (by have := HM.out; omega) (by have := HSZ.out; simp; omega) ?_; intro v1 w3 hr hg hx; have HN := hide (HNX.out w3 v1 hg hr); clear hr hg hx)
          go_roundw
          case rel => exact ⟨jn + 1, by go_num, hj, hide (by rw [← HS1.out]; exact HN.out)⟩
          case measure => simp [intOf]; omega
        · obtain rfl : kN = jn := by omega
          go_wp2_with fail
          go_loopw [3, 7] (fun u j wr => ∃ jn : Nat, j = .int .i64 (jn : Int) ∧ jn ≤ xa.size ∧ Hid (OwnU wr w.heap.size u ((P ++ List.replicate kN Tok.K) ++ (xa.data.toList.take jn).map Tok.A) ∧ Below w.heap.size w wr ∧ wr.heap[q]? = some (.cells #[.int .i64 (kN : Int), .string xa, .int .i64 (dN : Int)] 91 (0, 0)))) (fun _ j _ => xa.size - (intOf j).toNat)
          case atStart => exact ⟨0, rfl, Nat.zero_le _, hide (by rw [List.take_zero, List.map_nil, List.append_nil]; exact HJ.out)⟩
          case round =>
            obtain ⟨jn, rfl, hjk, HJ⟩ := hrel
            obtain ⟨ub, ud, rfl⟩ := HJ.out.1.form
            have c0 : wr.cell? ⟨q, 0, none⟩ = some (.int .i64 (kN : Int)) := by rw [Joins.cell_of_block HJ.out.2.2]; rfl
            have c1 : wr.cell? ⟨q, 1, none⟩ = some (.string xa) := by rw [Joins.cell_of_block HJ.out.2.2]; rfl
            have c2 : wr.cell? ⟨q, 2, none⟩ = some (.int .i64 (dN : Int)) := by rw [Joins.cell_of_block HJ.out.2.2]; rfl
            by_cases hj : jn < xa.size
            · have hj' : (jn : Int) < (xa.size : Int) := by omega
              have w7 : IntKind.i64.wrap ((jn : Int) + 1) = (jn : Int) + 1 := by rw [IntKind.wrap_i64]; have := HLE.out; omega
              have hxe := ext_one hj
              have hxs : (jn : Int) + 1 ≤ (xa.size : Int) := by omega
              have HXE := hide hxe
              clear hxe
              have HM : Hid (((P ++ List.replicate kN Tok.K) ++ (xa.data.toList.take jn).map Tok.A).length ≤ 100000) := hide (by have := HLE.out; simp only [List.length_append, List.length_replicate, List.length_map, List.length_take, Array.length_toList]; have h3 : xa.data.size = xa.size := rfl; omega)
              have HS1 : Hid (((P ++ List.replicate kN Tok.K) ++ (xa.data.toList.take jn).map Tok.A) ++ [(Tok.A (xa.data.toList.getD jn 0))] = (P ++ List.replicate kN Tok.K) ++ (xa.data.toList.take (jn + 1)).map Tok.A) := hide (by rw [List.append_assoc]; congr 1; rw [List.take_succ_eq_append_getElem (by rw [Array.length_toList]; exact hj), List.map_append]; rw [List.map_cons, List.map_nil]; congr 3; rw [List.getD, List.getElem?_eq_getElem (by rw [Array.length_toList]; exact hj)]; rfl)
              generalize (P ++ List.replicate kN Tok.K) ++ (xa.data.toList.take jn).map Tok.A = L1 at *
              have HOW : Hid ((wr.alloc (.cells #[.int .i64 2, .string (xa.extract jn (jn + 1))] 162)).ownsRow w.heap.size 162 2 (.slice ub L1.length ud) L1.length (cellsU L1)) := hide (World.ownsRow.alloc HJ.out.1 _)
              have HNEW : Hid (∀ i u, (cellsU [(Tok.A (xa.data.toList.getD jn 0))])[i]? = some u → (wr.alloc (.cells #[.int .i64 2, .string (xa.extract jn (jn + 1))] 162)).cell? ((⟨wr.heap.size, 0, none⟩ : Addr).add i) = some u) := hide (by rw [HXE.out]; exact fun i u hu => cells_unit wr _ i u hu)
              have HNX : Hid (∀ w3 v1, (wr.alloc (.cells #[.int .i64 2, .string (xa.extract jn (jn + 1))] 162)).grownBy w3 (Value.slice ub L1.length ud).ownBlock → w3.ownsRow w.heap.size 162 2 v1 (L1.length + 1) (cellsU L1 ++ cellsU [(Tok.A (xa.data.toList.getD jn 0))]) → OwnU w3 w.heap.size v1 (L1 ++ [(Tok.A (xa.data.toList.getD jn 0))]) ∧ Below w.heap.size w w3 ∧ w3.heap[q]? = some (.cells #[.int .i64 (kN : Int), .string xa, .int .i64 (dN : Int)] 91 (0, 0))) := hide fun w3 v1 hg hr => unit_next (t := (Tok.A (xa.data.toList.getD jn 0))) (Nat.le_refl _) HJ.out.2.1 HJ.out.1 HJ.out.2.2 (by rw [HXE.out] at hg; exact hg) hr
              have HSZ := hide HJ.out.2.1.size
              clear HJ
              go_wp2_with (at_builtin; refine wpList_append_own _ rfl (.tmp 36) (.tmp 44) 159 rfl w.heap.size 162 i0 (.agg #[.int .i64 0, .string ⟨#[]⟩]) 2 24 Try.underlying159 hi hz0 hz1 hz2 rfl (by decide) _ _ _ rfl HOW.out ⟨_, 0, none⟩ 1 1 _ rfl rfl HNEW.out (oneCellU _) (by have := HM.out; unfold maxLen; omega) (by have := HM.out; omega) (by have := HSZ.out; simp; omega) ?_; intro v1 w3 hr hg hx; have HN := hide (HNX.out w3 v1 hg hr); clear hr hg hx)
              go_roundw
              case rel => exact ⟨jn + 1, by go_num, hj, hide (by rw [← HS1.out]; exact HN.out)⟩
              case measure => simp [intOf]; omega
            · obtain rfl : xa.size = jn := by omega
              have htk : xa.data.toList.take xa.size = xa.data.toList := List.take_of_length_le (by rw [Array.length_toList]; exact Nat.le_refl _)
              rw [htk] at HJ ⊢
              clear htk
              go_wp2_with fail
              go_loopw [3, 8] (fun u j wr => ∃ jn : Nat, j = .int .i64 (jn : Int) ∧ jn ≤ dN ∧ Hid (OwnU wr w.heap.size u (((P ++ List.replicate kN Tok.K) ++ xa.data.toList.map Tok.A) ++ List.replicate jn Tok.D) ∧ Below w.heap.size w wr ∧ wr.heap[q]? = some (.cells #[.int .i64 (kN : Int), .string xa, .int .i64 (dN : Int)] 91 (0, 0)))) (fun _ j _ => dN - (intOf j).toNat)
              case atStart => exact ⟨0, rfl, Nat.zero_le _, hide (by rw [List.replicate_zero, List.append_nil]; exact HJ.out)⟩
              case round =>
                obtain ⟨jn, rfl, hjk, HJ⟩ := hrel
                obtain ⟨ub, ud, rfl⟩ := HJ.out.1.form
                have c0 : wr.cell? ⟨q, 0, none⟩ = some (.int .i64 (kN : Int)) := by rw [Joins.cell_of_block HJ.out.2.2]; rfl
                have c1 : wr.cell? ⟨q, 1, none⟩ = some (.string xa) := by rw [Joins.cell_of_block HJ.out.2.2]; rfl
                have c2 : wr.cell? ⟨q, 2, none⟩ = some (.int .i64 (dN : Int)) := by rw [Joins.cell_of_block HJ.out.2.2]; rfl
                by_cases hj : jn < dN
                · have hj' : (jn : Int) < (dN : Int) := by omega
                  have w7 : IntKind.i64.wrap ((jn : Int) + 1) = (jn : Int) + 1 := by rw [IntKind.wrap_i64]; have := HLE.out; omega
                  have HM : Hid ((((P ++ List.replicate kN Tok.K) ++ xa.data.toList.map Tok.A) ++ List.replicate jn Tok.D).length ≤ 100000) := hide (by have := HLE.out; simp only [List.length_append, List.length_replicate, List.length_map, List.length_take, Array.length_toList]; have h3 : xa.data.size = xa.size := rfl; omega)
                  have HS1 : Hid ((((P ++ List.replicate kN Tok.K) ++ xa.data.toList.map Tok.A) ++ List.replicate jn Tok.D) ++ [Tok.D] = ((P ++ List.replicate kN Tok.K) ++ xa.data.toList.map Tok.A) ++ List.replicate (jn + 1) Tok.D) := hide (by rw [List.append_assoc]; congr 1; rw [List.replicate_succ'])
                  generalize ((P ++ List.replicate kN Tok.K) ++ xa.data.toList.map Tok.A) ++ List.replicate jn Tok.D = L1 at *
                  have HOW : Hid ((wr.alloc (.cells #[.int .i64 3, .string ⟨#[]⟩] 162)).ownsRow w.heap.size 162 2 (.slice ub L1.length ud) L1.length (cellsU L1)) := hide (World.ownsRow.alloc HJ.out.1 _)
                  have HNEW : Hid (∀ i u, (cellsU [Tok.D])[i]? = some u → (wr.alloc (.cells #[.int .i64 3, .string ⟨#[]⟩] 162)).cell? ((⟨wr.heap.size, 0, none⟩ : Addr).add i) = some u) := hide (by exact fun i u hu => cells_unit wr Tok.D i u hu)
                  have HNX : Hid (∀ w3 v1, (wr.alloc (.cells #[.int .i64 3, .string ⟨#[]⟩] 162)).grownBy w3 (Value.slice ub L1.length ud).ownBlock → w3.ownsRow w.heap.size 162 2 v1 (L1.length + 1) (cellsU L1 ++ cellsU [Tok.D]) → OwnU w3 w.heap.size v1 (L1 ++ [Tok.D]) ∧ Below w.heap.size w w3 ∧ w3.heap[q]? = some (.cells #[.int .i64 (kN : Int), .string xa, .int .i64 (dN : Int)] 91 (0, 0))) := hide fun w3 v1 hg hr => unit_next (t := Tok.D) (Nat.le_refl _) HJ.out.2.1 HJ.out.1 HJ.out.2.2 (by exact hg) hr
                  have HSZ := hide HJ.out.2.1.size
                  clear HJ
                  go_wp2_with (at_builtin; refine wpList_append_own _ rfl (.tmp 52) (.tmp 54) 159 rfl w.heap.size 162 i0 (.agg #[.int .i64 0, .string ⟨#[]⟩]) 2 24 Try.underlying159 hi hz0 hz1 hz2 rfl (by decide) _ _ _ rfl HOW.out ⟨_, 0, none⟩ 1 1 _ rfl rfl HNEW.out (oneCellU _) (by have := HM.out; unfold maxLen; omega) (by have := HM.out; omega) (by have := HSZ.out; simp; omega) ?_; intro v1 w3 hr hg hx; have HN := hide (HNX.out w3 v1 hg hr); clear hr hg hx)
                  go_roundw
                  case rel => exact ⟨jn + 1, by go_num, hj, hide (by rw [← HS1.out]; exact HN.out)⟩
                  case measure => simp [intOf]; omega
                · obtain rfl : dN = jn := by omega
                  go_wp2_with fail
                  go_roundw
                  case rel => exact ⟨k + 1, by go_num, by have := HLT.out; omega, hide ⟨by rw [HEX.out, ← List.append_assoc, ← List.append_assoc]; exact HJ.out.1, HJ.out.2.1⟩⟩
                  case measure => simp [intOf]; have := HLT.out; omega
    · obtain rfl : k = rs.length := by omega
      rw [List.take_length] at HI
      go_wp2
      go_ret
      exact ⟨_, rfl, by rw [List.take_length] at *; exact HI.out.1, HI.out.2⟩

end Go.Proofs.Ytpmijaplkbmbiaa.E
