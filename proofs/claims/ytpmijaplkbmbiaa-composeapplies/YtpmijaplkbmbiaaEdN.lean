/- The edit of an edit's runs, parted or not. -/
import Derived.Test.YtpmijaplkbmbiaaEdM
namespace Go.Proofs.Ytpmijaplkbmbiaa.E
open Go.Proofs.Ytpmijaplkbmbiaa Go.RowKit Go.By Go.Shelf
set_option linter.unusedVariables false
set_option linter.unusedSimpArgs false

def part1 (c : Int) (r : Rn) : List Rn :=
  if c < r.keep then [⟨c, ⟨#[]⟩, 0⟩, ⟨r.keep - c, ⟨#[]⟩, 0⟩]
  else if c < r.drop then [⟨0, ⟨#[]⟩, c⟩, ⟨0, ⟨#[]⟩, r.drop - c⟩]
  else if c < (r.add.size : Int) then [⟨0, r.add.extract 0 c.toNat, 0⟩, ⟨0, r.add.extract c.toNat r.add.size, 0⟩]
  else [r]
def partR (c : Int) (rs : List Rn) : List Rn := rs.flatMap (part1 c)

theorem expand_part1 {c : Int} {r : Rn} (hc : 0 ≤ c) (hk : kind r ≠ 0) : expand (part1 c r) = toks r := by
  have two : ∀ x y : Rn, expand [x, y] = toks x ++ toks y := fun x y => by simp [expand]
  unfold part1
  rcases kind_cases hk with ⟨n, hn, rfl⟩ | ⟨a, ha, rfl⟩ | ⟨n, hn, rfl⟩
  · by_cases h : c < (rK n).keep
    · rw [if_pos h, two, toks_keep, toks_keep, toks_rK hn, List.replicate_append_replicate]
      have : (rK n).keep = n := rfl
      rw [this] at h ⊢
      congr 1; omega
    · rw [if_neg h, if_neg (show ¬ c < (rK n).drop from fun h => by have : (rK n).drop = 0 := rfl; omega), if_neg (fun h => by have : (rK n).add.size = 0 := rfl; omega), expand_one]
  · rw [if_neg (show ¬ c < (rA a).keep from fun h => by have : (rA a).keep = 0 := rfl; omega), if_neg (show ¬ c < (rA a).drop from fun h => by have : (rA a).drop = 0 := rfl; omega)]
    by_cases h : c < ((rA a).add.size : Int)
    · rw [if_pos h, two, toks_add, toks_add, toks_rA ha, ← List.map_append]
      have hs : (rA a).add.size = a.length := by simp [rA, ByteArray.size]
      have e1 : ((rA a).add.extract 0 c.toNat).data.toList = a.take c.toNat := by simp [rA]
      have e2 : ((rA a).add.extract c.toNat (rA a).add.size).data.toList = a.drop c.toNat := by
        rw [hs]; simp [rA]
        rw [List.take_of_length_le (by simp)]
      rw [e1, e2, List.take_append_drop]
    · rw [if_neg h, expand_one]
  · rw [if_neg (show ¬ c < (rD n).keep from fun h => by have : (rD n).keep = 0 := rfl; omega)]
    by_cases h : c < (rD n).drop
    · rw [if_pos h, two, toks_drop, toks_drop, toks_rD hn, List.replicate_append_replicate]
      have : (rD n).drop = n := rfl
      rw [this] at h ⊢
      congr 1; omega
    · rw [if_neg h, if_neg (fun h => by have : (rD n).add.size = 0 := rfl; omega), expand_one]

theorem expand_partR {c : Int} (hc : 0 ≤ c) (rs : List Rn) (hk : ∀ x ∈ rs, kind x ≠ 0) : expand (partR c rs) = expand rs := by
  induction rs with
  | nil => rfl
  | cons r rs ih =>
    have e : partR c (r :: rs) = part1 c r ++ partR c rs := by simp [partR]
    rw [e, expand_append, expand_part1 hc (hk r List.mem_cons_self), ih fun x hx => hk x (List.mem_cons_of_mem _ hx)]
    simp [expand]
theorem partR_snoc (c : Int) (rs : List Rn) (x : Rn) : partR c (rs ++ [x]) = partR c rs ++ part1 c x := by simp [partR]

theorem len_part1 (c : Int) (r : Rn) : (part1 c r).length ≤ 2 := by
  unfold part1
  split
  · simp
  split
  · simp
  split <;> simp
theorem len_partR (c : Int) (rs : List Rn) : (partR c rs).length ≤ 2 * rs.length := by
  induction rs with
  | nil => simp [partR]
  | cons r rs ih =>
    have e : partR c (r :: rs) = part1 c r ++ partR c rs := by simp [partR]
    have := len_part1 c r
    rw [e, List.length_append, List.length_cons]; omega

theorem right_normR (rs : List Rn) : ∀ x ∈ normR rs, kind x ≠ 0 := by
  obtain ⟨ts, e, h1, h2, h3⟩ := normR_or rs
  obtain ⟨j, hj⟩ := kscan_normT ts
  rw [e]
  exact kscan_all hj

theorem app_prep {wr : World} {B : Nat} {v : Value} {P : List Rn} (h : OwnR wr B v P) (hB : B ≤ wr.heap.size) (o1 : Obj) (L : List Rn) :
    ((wr.alloc o1).alloc (.cells (cellsR L).toArray 91)).ownsRow B 91 3 v P.length (cellsR P) ∧
    (∀ i u, (cellsR L)[i]? = some u → ((wr.alloc o1).alloc (.cells (cellsR L).toArray 91)).cell? ((⟨wr.heap.size + 1, 0, none⟩ : Addr).add i) = some u) ∧
    B ≤ ((wr.alloc o1).alloc (.cells (cellsR L).toArray 91)).heap.size ∧
    ((wr.alloc o1).alloc (.cells (cellsR L).toArray 91)).heap.size = wr.heap.size + 1 + 1 := by
  refine ⟨(World.ownsRow.alloc (World.ownsRow.alloc h o1) _), fun i u hu => ?_, by simp; omega, by simp⟩
  have hn := World.alloc_heap_new (wr.alloc o1) (.cells (cellsR L).toArray 91)
  rw [World.size_alloc] at hn
  exact World.news_of_block (cs := (cellsR L).toArray) hn i u (by simpa using hu)

theorem only_then {wr Z WA : World} {v : Value} (hz : Only (fun k => v.ownBlock = some k) wr Z) (hg : Z.grownBy WA v.ownBlock) : Only (fun k => v.ownBlock = some k) wr WA :=
  hz.trans (Only.grown hg fun k hk => hk)

theorem app_done {wr WA W5 : World} {B gg c1 : Nat} {v : Value} {P : List Rn} (h : OwnR wr B v P) (hB : B ≤ wr.heap.size) (hb : Below B W5 wr) (L : List Rn)
    (hr : WA.ownsRow B 91 3 (.slice (some ⟨gg, 0, none⟩) (P.length + L.length) c1) (P.length + L.length) (cellsR P ++ cellsR L)) (hg : Only (fun k => v.ownBlock = some k) wr WA) :
    OwnR WA B (.slice (some ⟨gg, 0, none⟩) (P.length + L.length) c1) (P ++ L) ∧ Below B W5 WA := by
  refine ⟨?_, hb.trans (hg.below hB fun k hk => (h.lt hk).1)⟩
  show WA.ownsRow _ _ _ _ _ _
  rw [cellsR_append, List.length_append]; exact hr

theorem oneCellR (L : List Rn) : ∀ u ∈ cellsR L, u.oneCell' = true := by
  intro u hu
  obtain ⟨r, _, hr⟩ := List.mem_flatMap.1 hu
  exact oneCell3 r u hr

theorem mod7 (x : Int) : ∃ c : Nat, c ≤ 6 ∧ IntKind.i64.wrap ((IntKind.u64.wrap x).tmod 7) = (c : Int) := by
  have h0 : 0 ≤ IntKind.u64.wrap x := by rw [IntKind.wrap_u64]; omega
  obtain ⟨m, hm⟩ := Int.eq_ofNat_of_zero_le h0
  refine ⟨m % 7, by omega, ?_⟩
  rw [hm, show ((m : Int)).tmod 7 = ((m % 7 : Nat) : Int) from rfl, IntKind.wrap_i64]
  omega

set_option maxRecDepth 100000 in
set_option maxHeartbeats 8000000 in
theorem norms_any (a : Option Addr) (cap : Nat) (rs : List Rn) (x : Int) (w : World) (hS : CameR w.heap.size w a rs) :
    Calls Try.prog 14 #[.slice a rs.length cap, .int .i64 x] w fun e W' => e = .returned (.bool true) ∧ Below w.heap.size w W' := by
  obtain ⟨i0, hi, hz0, hz1, hz2⟩ := info_parts (show (Try.prog.info? 91).map (fun i => (i.zero, i.size, i.bytes)) = some (some (.agg #[.int .i64 0, .string ⟨#[]⟩, .int .i64 0]), 3, 32) by kernel_rfl)
  obtain ⟨c, hc6, hcw⟩ := mod7 x
  have hL := light_any a cap rs w hS
  have HS := hide hS
  go_enter Try.func14, Try.ntmps14
  by_cases hli : LightR rs
  · have hl : rs.length ≤ 1000000 := by have := hli.1; omega
    rw [decide_eq_true hli] at hL
    have HG : Hid ((meas (normR rs)).isSome = true) := hide (isG_normR rs)
    have HBD := hide (normR_bounds rs)
    have HAG : Hid (normR (normR rs) = normR rs) := hide (normR_again rs (normR rs) rfl)
    clear hS hli
    go_wp2_with (go_at_call 49; refine hL.mono ?_; rintro e W1 ⟨rfl, hb⟩; have HB := hide hb; clear hb)
    go_wp2_with (go_at_call 60; refine (norm_any a cap rs W1 (came_up HS.out HB.out) hl).mono ?_; rintro e W2 ⟨a2, c2, rfl, hc, hb⟩; have HC := hide hc; have HB2 := hide (HB.out.trans (hb.mono HB.out.size)); clear hc hb)
    go_wp2_with (go_at_call 51; refine (good_any a2 c2 _ W2 HC.out (by have := HBD.out; omega)).mono ?_; rintro e W3 ⟨rfl, hb⟩; rw [HG.out]; have HC3 := hide (came_up HC.out hb); have HB3 := hide (HB2.out.trans (hb.mono HB2.out.size)); clear hb)
    go_wp2_with (go_at_call 60; refine (norm_any a2 c2 _ W3 HC3.out (by have := HBD.out; omega)).mono ?_; rintro e W4 ⟨a4, c4, rfl, hc, hb⟩; have HC4 := hide hc; have HCN := hide (came_up HC3.out hb); have HB4 := hide (HB3.out.trans (hb.mono HB3.out.size)); clear hc hb)
    go_wp2_with (go_at_call 59; refine (rsame_is a4 a2 c4 c2 _ _ W4 HC4.out HCN.out (by rw [HAG.out]; have := HBD.out; omega) HAG.out).mono ?_; rintro e W5 ⟨rfl, hb⟩; have HC5 := hide (came_up HCN.out hb); have HB5 := hide (HB4.out.trans (hb.mono HB4.out.size)); clear hb)
    have HRIGHT := hide (right_normR rs)
    have HALL : Hid (∀ rs', expand rs' = expand (normR rs) → normR rs' = normR rs) := hide (normR_again rs)
    have HME := hide (meas_normR rs)
    clear HC HC3 HC4 HCN HG HAG
    generalize normR rs = R at *
    go_loopw [6, 7, 8, 30] (fun u vi vo i wr => ∃ k : Nat, i = .int .i64 (k : Int) ∧ k ≤ R.length ∧ vi = .int .i64 ((tIn (expand (R.take k)) : Nat) : Int) ∧ vo = .int .i64 ((tOut (expand (R.take k)) : Nat) : Int) ∧ Hid (OwnR wr W5.heap.size u (partR c (R.take k)) ∧ Below W5.heap.size W5 wr)) (fun _ _ _ i _ => R.length - (intOf i).toNat)
    case atStart => exact ⟨0, rfl, by omega, rfl, rfl, hide ⟨OwnR.nil _ _, Below.refl _ _⟩⟩
    case round =>
      obtain ⟨k, rfl, hk, rfl, rfl, HI⟩ := hrel
      obtain ⟨ua, un, uc, rfl⟩ := form3 HI.out.1
      by_cases hlt : k < R.length
      · have hlt' : (k : Int) < (R.length : Int) := by omega
        obtain ⟨b, off, rfl, s0, s1, s2⟩ := came_at (HC5.out.below HI.out.2) hlt
        have hsn : R.take (k + 1) = R.take k ++ [R.getD k rn0] := by rw [List.take_succ_eq_append_getElem hlt]; simp [List.getD, hlt]
        have hmem : R.getD k rn0 ∈ R := by simp [List.getD, hlt]
        obtain ⟨y, hy⟩ : ∃ y, y = R.getD k rn0 := ⟨_, rfl⟩
        rw [← hy] at s0 s1 s2 hsn hmem
        obtain ⟨xk, xa, xd⟩ := y
        dsimp only at s0 s1 s2
        have hkx : kind ⟨xk, xa, xd⟩ ≠ 0 := HRIGHT.out _ hmem
        obtain ⟨hxk, hxd, _, _⟩ := kind_facts hkx
        replace hxk : 0 ≤ xk := hxk
        replace hxd : 0 ≤ xd := hxd
        obtain ⟨t1, t2⟩ := size_snoc (pre := R.take k) hkx
        replace t1 : ((tIn (expand (R.take k ++ [⟨xk, xa, xd⟩])) : Nat) : Int) = (tIn (expand (R.take k)) : Int) + (xk + xd) := t1
        replace t2 : ((tOut (expand (R.take k ++ [⟨xk, xa, xd⟩])) : Nat) : Int) = (tOut (expand (R.take k)) : Int) + (xk + (xa.size : Int)) := t2
        rw [← hsn] at t1 t2
        have hle : tIn (expand (R.take (k + 1))) ≤ tIn (expand R) ∧ tOut (expand (R.take (k + 1))) ≤ tOut (expand R) := by
          have := congrArg expand (List.take_append_drop (k + 1) R)
          rw [expand_append] at this
          rw [← this, tIn_append, tOut_append]; omega
        have hbd := HBD.out
        have E1 := hide t1
        have E2 := hide t2
        have EP0 : Hid (partR c (R.take (k + 1)) = partR c (R.take k) ++ part1 c ⟨xk, xa, xd⟩) := hide (by rw [hsn, partR_snoc])
        have HM : Hid ((partR c (R.take k)).length ≤ 1000000) := hide (by have := len_partR c (R.take k); rw [List.length_take] at this; omega)
        have hti : (0 : Int) ≤ (tIn (expand (R.take k)) : Int) := Int.natCast_nonneg _
        have hto : (0 : Int) ≤ (tOut (expand (R.take k)) : Int) := Int.natCast_nonneg _
        generalize ((tIn (expand (R.take k)) : Nat) : Int) = ti at *
        generalize ((tOut (expand (R.take k)) : Nat) : Int) = tq at *
        generalize partR c (R.take k) = P at *
        have w1 : IntKind.i64.wrap (xk + xd) = xk + xd := by rw [IntKind.wrap_i64]; omega
        have w2 : IntKind.i64.wrap (ti + (xk + xd)) = ti + (xk + xd) := by rw [IntKind.wrap_i64]; omega
        have w3 : IntKind.i64.wrap (xk + (xa.size : Int)) = xk + (xa.size : Int) := by rw [IntKind.wrap_i64]; omega
        have w4 : IntKind.i64.wrap (tq + (xk + (xa.size : Int))) = tq + (xk + (xa.size : Int)) := by rw [IntKind.wrap_i64]; omega
        have bx : xk ≤ 16777216 ∧ xd ≤ 16777216 ∧ (xa.size : Int) ≤ 16777216 := by omega
        have HLT := hide hlt
        have w6 : IntKind.i64.wrap ((k : Int) + 1) = (k : Int) + 1 := by rw [IntKind.wrap_i64]; omega
        clear hmem hsn hy t1 t2 hle
        by_cases q1 : (c : Int) < xk
        · have w5 : IntKind.i64.wrap (xk - (c : Int)) = xk - (c : Int) := by rw [IntKind.wrap_i64]; omega
          have EP := hide (EP0.out.trans (by rw [part1, if_pos q1]))
          have HP := hide (app_prep HI.out.1 HI.out.2.size (.cells #[.int .i64 xk, .string xa, .int .i64 xd] 91) [⟨(c : Int), ⟨#[]⟩, 0⟩, ⟨xk - (c : Int), ⟨#[]⟩, 0⟩])
          clear hbd bx
          go_wp2_with (at_builtin; refine wpList_append_lies _ rfl (.tmp 57) (.tmp 65) 77 rfl W5.heap.size 91 i0 (.agg #[.int .i64 0, .string ⟨#[]⟩, .int .i64 0]) 3 32 Try.underlying77 hi hz0 hz1 hz2 rfl (by decide) (.slice ua un uc) P.length (cellsR P) rfl HP.out.1 ⟨wr.heap.size + 1, 0, none⟩ 2 2 (cellsR [⟨(c : Int), ⟨#[]⟩, 0⟩, ⟨xk - (c : Int), ⟨#[]⟩, 0⟩]) rfl rfl HP.out.2.1 (oneCellR _) (by decide) (by have := HM.out; unfold maxLen; omega) (by have := HM.out; omega) HP.out.2.2.1 (wr.heap.size + 1 + 1) HP.out.2.2.2 ?_; intro gg c1 WA hr hgr hat hltA; have HQ := hide (app_done HI.out.1 HI.out.2.size HI.out.2 [⟨(c : Int), ⟨#[]⟩, 0⟩, ⟨xk - (c : Int), ⟨#[]⟩, 0⟩] hr (only_then ((Only.alloc _ _ _).trans (Only.alloc _ _ _)) hgr)); clear hr hgr hat hltA)
          go_roundw
          case rel => exact ⟨k + 1, by go_num, by have := HLT.out; omega, by rw [E1.out], by rw [E2.out], hide (by rw [EP.out]; exact HQ.out)⟩
          case measure => simp [intOf]; have := HLT.out; omega
        by_cases q2 : (c : Int) < xd
        · have w5 : IntKind.i64.wrap (xd - (c : Int)) = xd - (c : Int) := by rw [IntKind.wrap_i64]; omega
          have EP := hide (EP0.out.trans (by rw [part1, if_neg q1, if_pos q2]))
          have HP := hide (app_prep HI.out.1 HI.out.2.size (.cells #[.int .i64 xk, .string xa, .int .i64 xd] 91) [⟨0, ⟨#[]⟩, (c : Int)⟩, ⟨0, ⟨#[]⟩, xd - (c : Int)⟩])
          clear hbd bx
          go_wp2_with (at_builtin; refine wpList_append_lies _ rfl (.tmp 71) (.tmp 79) 77 rfl W5.heap.size 91 i0 (.agg #[.int .i64 0, .string ⟨#[]⟩, .int .i64 0]) 3 32 Try.underlying77 hi hz0 hz1 hz2 rfl (by decide) (.slice ua un uc) P.length (cellsR P) rfl HP.out.1 ⟨wr.heap.size + 1, 0, none⟩ 2 2 (cellsR [⟨0, ⟨#[]⟩, (c : Int)⟩, ⟨0, ⟨#[]⟩, xd - (c : Int)⟩]) rfl rfl HP.out.2.1 (oneCellR _) (by decide) (by have := HM.out; unfold maxLen; omega) (by have := HM.out; omega) HP.out.2.2.1 (wr.heap.size + 1 + 1) HP.out.2.2.2 ?_; intro gg c1 WA hr hgr hat hltA; have HQ := hide (app_done HI.out.1 HI.out.2.size HI.out.2 [⟨0, ⟨#[]⟩, (c : Int)⟩, ⟨0, ⟨#[]⟩, xd - (c : Int)⟩] hr (only_then ((Only.alloc _ _ _).trans (Only.alloc _ _ _)) hgr)); clear hr hgr hat hltA)
          go_roundw
          case rel => exact ⟨k + 1, by go_num, by have := HLT.out; omega, by rw [E1.out], by rw [E2.out], hide (by rw [EP.out]; exact HQ.out)⟩
          case measure => simp [intOf]; have := HLT.out; omega
        by_cases q3 : (c : Int) < (xa.size : Int)
        · have i4 : c ≤ xa.size := by omega
          have i5 : c < xa.size := by omega
          have EP := hide (EP0.out.trans (by rw [part1, if_neg q1, if_neg q2, if_pos q3, Int.toNat_natCast]))
          have HP := hide (app_prep HI.out.1 HI.out.2.size (.cells #[.int .i64 xk, .string xa, .int .i64 xd] 91) [⟨0, xa.extract 0 c, 0⟩, ⟨0, xa.extract c xa.size, 0⟩])
          clear hbd bx
          go_wp2_with fail
          have HM2 : Hid (P.length + 2 ≤ maxLen ∧ (P.length + 2) * 32 ≤ 140737488355328) := hide ⟨by have := HM.out; unfold maxLen; omega, by have := HM.out; omega⟩
          go_region_law (refine step_append_lies _ rfl (.tmp 86) (.tmp 97) 77 rfl W5.heap.size 91 i0 (.agg #[.int .i64 0, .string ⟨#[]⟩, .int .i64 0]) 3 32 Try.underlying77 hi hz0 hz1 hz2 rfl (by decide) (.slice ua un uc) P.length (cellsR P) rfl HP.out.1 ⟨wr.heap.size + 1, 0, none⟩ 2 2 (cellsR [⟨0, xa.extract 0 c, 0⟩, ⟨0, xa.extract c xa.size, 0⟩]) rfl rfl HP.out.2.1 (oneCellR _) (by decide) HM2.out.1 HM2.out.2 HP.out.2.2.1 (wr.heap.size + 1 + 1) HP.out.2.2.2 ?_; intro gg c1 WA hr hgr hat hltA; have HR := hide hr; have HGR := hide hgr; clear hr hgr hat hltA)
          all_goals (go_wp2_with fail)
          all_goals go_roundw
          all_goals first
            | exact ⟨k + 1, by go_num, by have := HLT.out; omega, by rw [E1.out], by rw [E2.out], hide (by rw [EP.out]; exact app_done HI.out.1 HI.out.2.size HI.out.2 [⟨0, xa.extract 0 c, 0⟩, ⟨0, xa.extract c xa.size, 0⟩] HR.out (only_then (by repeat (first | exact Only.refl _ _ | exact Only.alloc _ _ _ | refine Only.trans ?_ (Only.alloc _ _ _) | refine only_drw ?_ | refine only_drwN ?_ _)) HGR.out))⟩
            | (simp [intOf]; have := HLT.out; omega)
        · have EP := hide (EP0.out.trans (by rw [part1, if_neg q1, if_neg q2, if_neg q3]))
          have HP := hide (app_prep HI.out.1 HI.out.2.size (.cells #[.int .i64 xk, .string xa, .int .i64 xd] 91) [⟨xk, xa, xd⟩])
          clear hbd bx
          go_wp2_with (at_builtin; refine wpList_append_lies _ rfl (.tmp 99) (.tmp 101) 77 rfl W5.heap.size 91 i0 (.agg #[.int .i64 0, .string ⟨#[]⟩, .int .i64 0]) 3 32 Try.underlying77 hi hz0 hz1 hz2 rfl (by decide) (.slice ua un uc) P.length (cellsR P) rfl HP.out.1 ⟨wr.heap.size + 1, 0, none⟩ 1 1 (cellsR [⟨xk, xa, xd⟩]) rfl rfl HP.out.2.1 (oneCellR _) (by decide) (by have := HM.out; unfold maxLen; omega) (by have := HM.out; omega) HP.out.2.2.1 (wr.heap.size + 1 + 1) HP.out.2.2.2 ?_; intro gg c1 WA hr hgr hat hltA; have HQ := hide (app_done HI.out.1 HI.out.2.size HI.out.2 [⟨xk, xa, xd⟩] hr (only_then ((Only.alloc _ _ _).trans (Only.alloc _ _ _)) hgr)); clear hr hgr hat hltA)
          go_roundw
          case rel => exact ⟨k + 1, by go_num, by have := HLT.out; omega, by rw [E1.out], by rw [E2.out], hide (by rw [EP.out]; exact HQ.out)⟩
          case measure => simp [intOf]; have := HLT.out; omega
      · obtain rfl : k = R.length := by omega
        rw [List.take_length] at HI
        obtain ⟨_, _, e⟩ := HI.out.1.form
        cases e
        have HLP : Hid ((partR c R).length ≤ 1000000) := hide (by have := len_partR c R; have := HBD.out; omega)
        have HEQ : Hid (normR (partR c R) = R) := hide (HALL.out _ (expand_partR (by omega) R HRIGHT.out))
        have HCW := hide (came_up HC5.out HI.out.2)
        have HBW := hide (HB5.out.trans (HI.out.2.mono HB5.out.size))
        rw [List.take_length]
        obtain ⟨j, hj⟩ := HME.out
        have HIN : Hid (mIn (meas R) = (tIn (expand R) : Int)) := hide (by rw [hj]; rfl)
        have HOUT : Hid (mOut (meas R) = (tOut (expand R) : Int)) := hide (by rw [hj]; rfl)
        clear hj
        have HRL : Hid (R.length ≤ 1000000) := hide (by have := HBD.out; omega)
        go_wp2_with (go_at_call 60; refine (norm_any ua uc (partR c R) wr HI.out.1.came HLP.out).mono ?_; rintro e V1 ⟨a6, c6, rfl, hc, hb⟩; rw [HEQ.out] at hc ⊢; have HC6 := hide hc; have HCR := hide (came_up HCW.out hb); have HV1 := hide (HBW.out.trans (hb.mono HBW.out.size)); clear hc hb)
        go_wp2_with (go_at_call 59; refine (rsame_is a6 a2 c6 c2 _ _ V1 HC6.out HCR.out HRL.out rfl).mono ?_; rintro e V2 ⟨rfl, hb⟩; have HCR2 := hide (came_up HCR.out hb); have HV2 := hide (HV1.out.trans (hb.mono HV1.out.size)); clear hb)
        go_wp2_with (go_at_call 53; refine (in_any a2 c2 R V2 HCR2.out HRL.out).mono ?_; rintro e V3 ⟨rfl, hb⟩; rw [HIN.out]; have HCR3 := hide (came_up HCR2.out hb); have HV3 := hide (HV2.out.trans (hb.mono HV2.out.size)); clear hb)
        go_wp2_with (go_at_call 55; refine (out_any a2 c2 R V3 HCR3.out HRL.out).mono ?_; rintro e V4 ⟨rfl, hb⟩; rw [HOUT.out]; have HV4 := hide (HV3.out.trans (hb.mono HV3.out.size)); clear hb)
        go_wp2_with (go_at_call 50; refine (lives_any V4).mono ?_; rintro e V5 ⟨rfl, hb⟩; have HV5 := hide (HV4.out.trans (hb.mono HV4.out.size)); clear hb)
        go_ret
        exact ⟨rfl, HV5.out⟩
  · rw [decide_eq_false hli] at hL
    clear hS hli
    go_wp2_with (go_at_call 49; refine hL.mono ?_; rintro e W1 ⟨rfl, hb⟩; have HB := hide hb; clear hb)
    go_wp2_with (go_at_call 50; refine (lives_any W1).mono ?_; rintro e W2 ⟨rfl, hb⟩; have HB2 := hide (HB.out.trans (hb.mono HB.out.size)); clear hb)
    go_ret
    exact ⟨rfl, HB2.out⟩

end Go.Proofs.Ytpmijaplkbmbiaa.E
