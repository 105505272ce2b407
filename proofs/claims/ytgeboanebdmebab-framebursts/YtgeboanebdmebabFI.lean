/- frame: what the program reads of a packet's body. -/
import Derived.Test.YtgeboanebdmebabFH
namespace Go.Proofs.Ytgeboanebdmebab.F
open Go.Proofs.Ytgeboanebdmebab Go.RowKit Go.By
set_option linter.unusedVariables false
set_option linter.unusedSimpArgs false
set_option maxRecDepth 20000
attribute [local go_sem ↓] Go.wp_at_zero Go.wp_at_succ

/-- A number read: its value, the rest, whether all is well. -/
def nv (l : List Nat) : Nat := match Vary.num l with | some (n, k) => n | none => 0
def nl (l : List Nat) : List Nat := match Vary.num l with | some (n, k) => l.drop k | none => []
def nk (l : List Nat) (ok : Bool) : Bool := match Vary.num l with | some (n, k) => ok | none => false
def tv (l : List Nat) : List Nat := match Vary.txt l with | some (d, k) => d | none => []
def tl (l : List Nat) : List Nat := match Vary.txt l with | some (d, k) => l.drop k | none => []
def tk (l : List Nat) (ok : Bool) : Bool := match Vary.txt l with | some (d, k) => ok | none => false
theorem nl_small {l : List Nat} (h : ∀ c ∈ l, c < 256) : ∀ c ∈ nl l, c < 256 := by
  unfold nl
  cases Vary.num l with
  | none => simp
  | some p => exact fun c hc => h c (List.mem_of_mem_drop hc)
theorem nl_len (l : List Nat) : (nl l).length ≤ l.length := by
  unfold nl
  cases Vary.num l with
  | none => simp
  | some p => simp
theorem num_det (g : Nat) (l : List Nat) (ok : Bool) (w : World) (hR : V.Rd w g l ok) (hl : ∀ c ∈ l, c < 256) (hm : l.length ≤ 20000) :
    Calls Try.prog 28 #[.pointer (some ⟨g, 0, none⟩)] w fun e w' => e = .returned (.int .i64 (nv l : Nat)) ∧ V.Rd w' g (nl l) (nk l ok) ∧ V.Turn g w w' := by
  refine (V.Num_any g l ok w hR hl hm).mono ?_
  rintro e w' ⟨z, rfl, ht, h⟩
  rcases h with ⟨n, k, h1, rfl, h3⟩ | ⟨h1, rfl, h3⟩
  · unfold nv nl nk
    rw [h1]
    exact ⟨rfl, h3, ht⟩
  · unfold nv nl nk
    rw [h1]
    exact ⟨rfl, h3, ht⟩
theorem text_det (g : Nat) (l : List Nat) (ok : Bool) (w : World) (hR : V.Rd w g l ok) (hl : ∀ c ∈ l, c < 256) (hm : l.length ≤ 20000) :
    Calls Try.prog 32 #[.pointer (some ⟨g, 0, none⟩)] w fun e w' => e = .returned (.string (str (tv l))) ∧ V.Rd w' g (tl l) (tk l ok) ∧ V.Turn g w w' := by
  refine (V.Text_any g l ok w hR hl hm).mono ?_
  rintro e w' ⟨s, rfl, ht, h⟩
  rcases h with ⟨k, h1, h3⟩ | ⟨h1, rfl, h3⟩
  · unfold tv tl tk
    rw [h1]
    exact ⟨rfl, h3, ht⟩
  · unfold tv tl tk
    rw [h1]
    exact ⟨rfl, h3, ht⟩

/-- Whether all of some bytes were read, and well. -/
def okP (l : List Nat) : Bool := tk (nl (nl (nl l))) (nk (nl (nl l)) (nk (nl l) (nk l true))) && decide (tl (nl (nl (nl l))) = [])
theorem okP_parse (l : List Nat) (hl : ∀ c ∈ l, c < 256) : parse4 l = if okP l then some (nv l, nv (nl l), nv (nl (nl l)), tv (nl (nl (nl l)))) else none := by
  have e0 : Vary.num [] = none := rfl
  have e1 : Vary.txt [] = none := rfl
  cases h1 : Vary.num l with
  | none =>
    have a1 : nl l = [] := by unfold nl; rw [h1]
    have a2 : nl [] = [] := by unfold nl; rw [e0]
    have a3 : tk [] (nk [] (nk [] (nk l true))) = false := by unfold tk; rw [e1]
    rw [okP, a1, a2, a2, a3, parse4, h1]
    rfl
  | some p =>
    obtain ⟨e, i⟩ := p
    have b1 : nl l = l.drop i := by unfold nl; rw [h1]
    have b2 : nk l true = true := by unfold nk; rw [h1]
    have b3 : nv l = e := by unfold nv; rw [h1]
    cases h2 : Vary.num (l.drop i) with
    | none =>
      have a1 : nl (l.drop i) = [] := by unfold nl; rw [h2]
      have a2 : nl [] = [] := by unfold nl; rw [e0]
      have a3 : ∀ b, tk [] b = false := by intro b; unfold tk; rw [e1]
      rw [okP, b1, a1, a2, a3, parse4, h1]
      simp only [h2]
      rfl
    | some p2 =>
      obtain ⟨s, j⟩ := p2
      have c1 : nl (l.drop i) = l.drop (i + j) := by unfold nl; rw [h2]; exact List.drop_drop ..
      have c2 : nk (l.drop i) true = true := by unfold nk; rw [h2]
      have c3 : nv (l.drop i) = s := by unfold nv; rw [h2]
      cases h3 : Vary.num (l.drop (i + j)) with
      | none =>
        have a1 : nl (l.drop (i + j)) = [] := by unfold nl; rw [h3]
        have a3 : ∀ b, tk [] b = false := by intro b; unfold tk; rw [e1]
        rw [okP, b1, c1, a1, a3, parse4, h1]
        simp only [h2, h3]
        rfl
      | some p3 =>
        obtain ⟨a, k⟩ := p3
        have d1 : nl (l.drop (i + j)) = l.drop (i + j + k) := by unfold nl; rw [h3]; exact List.drop_drop ..
        have d2 : nk (l.drop (i + j)) true = true := by unfold nk; rw [h3]
        have d3 : nv (l.drop (i + j)) = a := by unfold nv; rw [h3]
        cases h4 : Vary.txt (l.drop (i + j + k)) with
        | none =>
          have a3 : ∀ b, tk (l.drop (i + j + k)) b = false := by intro b; unfold tk; rw [h4]
          rw [okP, b1, c1, d1, a3, parse4, h1]
          simp only [h2, h3, h4]
          rfl
        | some p4 =>
          obtain ⟨d, n⟩ := p4
          have f1 : tl (l.drop (i + j + k)) = l.drop (i + j + k + n) := by unfold tl; rw [h4]; exact List.drop_drop ..
          have f2 : tk (l.drop (i + j + k)) true = true := by unfold tk; rw [h4]
          have f3 : tv (l.drop (i + j + k)) = d := by unfold tv; rw [h4]
          rw [okP, b1, c1, d1, b2, c2, d2, f2, f1, b3, c3, d3, f3, parse4, h1]
          simp only [h2, h3, h4]
          have : (l.drop (i + j + k + n) = []) ↔ l.length ≤ i + j + k + n := List.drop_eq_nil_iff
          by_cases hq : l.length ≤ i + j + k + n
          · rw [Bool.true_and, decide_eq_true (this.2 hq)]
            by_cases hx : i + j + k + n = l.length
            · rw [if_pos hx]; rfl
            · exact absurd (Nat.le_antisymm (body_back hl h1 h2 h3 h4).2 hq) hx
          · rw [Bool.true_and, decide_eq_false (fun h => hq (this.1 h)), if_neg (by omega)]
            rfl

theorem parseP_ok (l : List Nat) (hl : ∀ c ∈ l, c < 256) : parseP l = if okP l && goodP (nv l : Nat) (nv (nl l) : Nat) (nv (nl (nl l)) : Nat) (str (tv (nl (nl (nl l))))) then ((((nv l : Nat) : Int), ((nv (nl l) : Nat) : Int), ((nv (nl (nl l)) : Nat) : Int), str (tv (nl (nl (nl l))))), true) else ((0, 0, 0, ⟨#[]⟩), false) := by
  unfold parseP
  rw [okP_parse l hl]
  cases h : okP l with
  | false => rfl
  | true =>
    simp only [if_true, Bool.true_and]

def errP (b : Bool) : Int := if b then 0 else 10
theorem read_own {B : Nat} {v : Value} {l : List Nat} {w : World} (h : Owns w B v l) : ∃ u cap, v = .slice u l.length cap ∧
    Calls Try.prog 27 #[.slice u l.length cap] w fun e w' => e = .returned (.pointer (some ⟨w.heap.size, 0, none⟩)) ∧ V.Rd w' w.heap.size l true ∧ Below w.heap.size w w' := by
  obtain ⟨u, cap, rfl, _, _, hL, _⟩ := h.form
  exact ⟨u, cap, rfl, V.read_look u l cap w hL.came⟩
theorem pk_at (w : World) (H : Nat) (x y z s : Value) (h : w.heap[H]? = some (.cells #[x, y, z, s] 23 (0, 0))) : w.cell? ⟨H, 0, none⟩ = some x ∧ w.cell? ⟨H, 1, none⟩ = some y ∧ w.cell? ⟨H, 2, none⟩ = some z ∧ w.cell? ⟨H, 3, none⟩ = some s := pk_cells h
theorem pk_free {w : World} {H : Nat} {cs : Array Value} (h : w.heap[H]? = some (.cells cs 23 (0, 0))) : w.frozen? ⟨H, 0, none⟩ = false ∧ w.frozen? ⟨H, 1, none⟩ = false ∧ w.frozen? ⟨H, 2, none⟩ = false ∧ w.frozen? ⟨H, 3, none⟩ = false :=
  ⟨Joins.unfrozen_of_block h 0, Joins.unfrozen_of_block h 1, Joins.unfrozen_of_block h 2, Joins.unfrozen_of_block h 3⟩
theorem pk_set {w : World} {g : Nat} {x y z s x' y' z' s' : Value} (h : w.heap[g]? = some (.cells #[x, y, z, s] 23 (0, 0))) : ((((w.setCell ⟨g, 0, none⟩ x').setCell ⟨g, 1, none⟩ y').setCell ⟨g, 2, none⟩ z').setCell ⟨g, 3, none⟩ s').heap[g]? = some (.cells #[x', y', z', s'] 23 (0, 0)) := by
  have h1 := Joins.block_setCell (i := 0) h x'
  have h2 := Joins.block_setCell (i := 1) h1 y'
  have h3 := Joins.block_setCell (i := 2) h2 z'
  exact Joins.block_setCell (i := 3) h3 s'

theorem turned {w W W' : World} {o : Obj} (h : Below w.heap.size w W ∧ W.heap[w.heap.size]? = some o) (t : V.Turn (w.heap.size + 1) W W') : Below w.heap.size w W' ∧ W'.heap[w.heap.size]? = some o :=
  ⟨h.1.trans (t.below (by omega) (Nat.le_of_lt (lt_of_heap h.2))), (t.1.block _ (lt_of_heap h.2) (by simp)).trans h.2⟩
theorem rd_alloc {W : World} {g : Nat} {l : List Nat} {ok : Bool} (h : V.Rd W g l ok) (o : Obj) : V.Rd (W.alloc o) g l ok := (Below.heap_alloc W o g (lt_of_heap h)).trans h
theorem goodup {w W W' : World} {o o' : Obj} (h : Below w.heap.size w W ∧ W.heap[w.heap.size]? = some o) (hb : Below (W.alloc o').heap.size (W.alloc o') W') : Below w.heap.size w W' ∧ W'.heap[w.heap.size]? = some o := by
  have h1 := h.1.alloc h.1.size o'
  have hlt := lt_of_heap h.2
  exact ⟨h1.trans (hb.mono h1.size), (hb.block _ (by rw [World.size_alloc]; omega)).trans ((Below.heap_alloc W o' _ hlt).trans h.2)⟩
theorem pup (W : World) (a b c : Nat) (s : ByteArray) (W' : World) (hb : Below (W.alloc (.cells #[.int .i64 a, .int .i64 b, .int .i64 c, .string s] 23)).heap.size (W.alloc (.cells #[.int .i64 a, .int .i64 b, .int .i64 c, .string s] 23)) W') : W'.heap[W.heap.size]? = some (.cells #[.int .i64 a, .int .i64 b, .int .i64 c, .string s] 23 (0, 0)) :=
  (hb.block _ (by rw [World.size_alloc]; omega)).trans (World.alloc_heap_new W _)

set_option maxHeartbeats 4000000 in
theorem packet_any (B : Nat) (l : List Nat) (u : Option Addr) (cap : Nat) (w : World) (ho : Owns w B (.slice u l.length cap) l) (hm : l.length ≤ 20000) :
    Calls Try.prog 20 #[.slice u l.length cap] w fun e W' => e = .returned (.tuple #[.agg #[.int .i64 (parseP l).1.1, .int .i64 (parseP l).1.2.1, .int .i64 (parseP l).1.2.2.1, .string (parseP l).1.2.2.2], .int .i64 (errP (parseP l).2)]) ∧ Below w.heap.size w W' := by
  have hs1 := nl_small ho.2
  have hs2 := nl_small hs1
  have hs3 := nl_small hs2
  have hn1 : (nl l).length ≤ 20000 := Nat.le_trans (nl_len _) hm
  have hn2 : (nl (nl l)).length ≤ 20000 := Nat.le_trans (nl_len _) hn1
  have hn3 : (nl (nl (nl l))).length ≤ 20000 := Nat.le_trans (nl_len _) hn2
  have HS := hide (And.intro ho.2 (And.intro hs1 (And.intro hs2 hs3)))
  have HN := hide (And.intro hm (And.intro hn1 (And.intro hn2 hn3)))
  have HO := hide ho
  have HP := hide (parseP_ok l ho.2)
  have HOK : Hid (okP l = (tk (nl (nl (nl l))) (nk (nl (nl l)) (nk (nl l) (nk l true))) && decide (tl (nl (nl (nl l))) = []))) := hide rfl
  have HB0 : Hid (Below w.heap.size w (w.alloc (.cells #[.int .i64 0, .int .i64 0, .int .i64 0, .string ⟨#[]⟩] 23)) ∧ (w.alloc (.cells #[.int .i64 0, .int .i64 0, .int .i64 0, .string ⟨#[]⟩] 23)).heap[w.heap.size]? = some (.cells #[.int .i64 0, .int .i64 0, .int .i64 0, .string ⟨#[]⟩] 23 (0, 0))) := hide ⟨(Below.refl _ w).alloc (Nat.le_refl _) _, World.alloc_heap_new w _⟩
  obtain ⟨u', cap', he, hrd⟩ := read_own (HO.out.alloc (.cells #[.int .i64 0, .int .i64 0, .int .i64 0, .string ⟨#[]⟩] 23))
  cases he
  have C1 := hide (fun W h => num_det (w.heap.size + 1) l true W h ho.2 hm)
  have C2 := hide (fun W h => num_det (w.heap.size + 1) (nl l) (nk l true) W h hs1 hn1)
  have C3 := hide (fun W h => num_det (w.heap.size + 1) (nl (nl l)) (nk (nl l) (nk l true)) W h hs2 hn2)
  have C4 := hide (fun W h => text_det (w.heap.size + 1) (nl (nl (nl l))) (nk (nl (nl l)) (nk (nl l) (nk l true))) W h hs3 hn3)
  have C5 := hide (fun W h => V.Done_any (w.heap.size + 1) (tl (nl (nl (nl l)))) (tk (nl (nl (nl l))) (nk (nl (nl l)) (nk (nl l) (nk l true)))) W h)
  rw [← HOK.out] at C5
  have C6 := hide (fun W => good_any (nv l : Nat) (nv (nl l) : Nat) (nv (nl (nl l)) : Nat) (str (tv (nl (nl (nl l))))) W)
  clear hs1 hs2 hs3 hn1 hn2 hn3 ho hm HOK HS HN HO
  generalize okP l = K at *
  generalize parseP l = R at *
  generalize goodP (nv l : Nat) (nv (nl l) : Nat) (nv (nl (nl l)) : Nat) (str (tv (nl (nl (nl l))))) = G at *
  generalize nv l = n1 at *
  generalize nk l true = k1 at *
  generalize nl l = l1 at *
  generalize nv l1 = n2 at *
  generalize nk l1 k1 = k2 at *
  generalize nl l1 = l2 at *
  generalize nv l2 = n3 at *
  generalize nk l2 k2 = k3 at *
  generalize nl l2 = l3 at *
  generalize str (tv l3) = sd at *
  generalize tk l3 k3 = k4 at *
  generalize tl l3 = l4 at *
  cases K with
  | false =>
    have HV : Hid (R = ((0, 0, 0, ⟨#[]⟩), false)) := hide (by rw [HP.out]; rfl)
    clear HP
    go_enter Try.func20, Try.ntmps20
    go_wp2_with (first
      | (go_at_call 27; refine hrd.mono ?_; rintro e W1 ⟨rfl, hr, hb⟩; rw [World.size_alloc] at hr; have HR1 := hide hr; have HB1 := hide (And.intro (HB0.out.1.trans (hb.mono HB0.out.1.size)) ((hb.block _ (lt_of_heap HB0.out.2)).trans HB0.out.2)); clear hr hb hrd)
      | (go_at_call 28; refine (C1.out _ HR1.out).mono ?_; rintro e W2 ⟨rfl, hr, ht⟩; have HR2 := hide hr; have HB2 := hide (turned HB1.out ht); clear hr ht)
      | (go_at_call 28; refine (C2.out _ HR2.out).mono ?_; rintro e W3 ⟨rfl, hr, ht⟩; have HR3 := hide hr; have HB3 := hide (turned HB2.out ht); clear hr ht)
      | (go_at_call 28; refine (C3.out _ HR3.out).mono ?_; rintro e W4 ⟨rfl, hr, ht⟩; have HR4 := hide hr; have HB4 := hide (turned HB3.out ht); clear hr ht)
      | (go_at_call 32; refine (C4.out _ HR4.out).mono ?_; rintro e W5 ⟨rfl, hr, ht⟩; have HR5 := hide hr; have HB5 := hide (turned HB4.out ht); obtain ⟨c0, c1, c2, c3⟩ := pk_cells HB5.out.2; obtain ⟨f0, f1, f2, f3⟩ := pk_free HB5.out.2; clear hr ht)
      | (go_at_call 33; refine (C5.out _ (rd_alloc HR5.out _)).mono ?_; rintro e W6 ⟨rfl, hw⟩; subst hw; have HBA := hide ((Below.heap_alloc W5 (.cells #[.int .i64 (n1 : Int), .int .i64 (n2 : Int), .int .i64 (n3 : Int), .string sd] 23) _ (lt_of_heap HB5.out.2)).trans HB5.out.2); obtain ⟨c0, c1, c2, c3⟩ := pk_cells HBA.out; obtain ⟨f0, f1, f2, f3⟩ := pk_free HBA.out)
      | (go_at_call 9; refine (C6.out _).mono ?_; rintro e W7 ⟨rfl, hb⟩; have HB7 := hide (goodup HB5.out hb); have HX7 := hide (pup W5 n1 n2 n3 sd W7 hb); obtain ⟨c0, c1, c2, c3⟩ := pk_cells HB7.out.2; obtain ⟨f0, f1, f2, f3⟩ := pk_free HB7.out.2; obtain ⟨d0, d1, d2, d3⟩ := pk_cells HX7.out; clear hb))
    exact bodyPost_ret (results_ct rfl _ _ w.heap.size 23 _ (0, 0) _ rfl (pk_set HBA.out) Try.underlying23 rfl (by kernel_rfl)) rfl ⟨by rw [HV.out]; rfl, ((((HB5.out.1.alloc HB5.out.1.size _).setCell (Nat.le_refl _) _).setCell (Nat.le_refl _) _).setCell (Nat.le_refl _) _).setCell (Nat.le_refl _) _⟩
  | true =>
   cases G with
   | false =>
    have HV : Hid (R = ((0, 0, 0, ⟨#[]⟩), false)) := hide (by rw [HP.out]; rfl)
    clear HP
    go_enter Try.func20, Try.ntmps20
    go_wp2_with (first
      | (go_at_call 27; refine hrd.mono ?_; rintro e W1 ⟨rfl, hr, hb⟩; rw [World.size_alloc] at hr; have HR1 := hide hr; have HB1 := hide (And.intro (HB0.out.1.trans (hb.mono HB0.out.1.size)) ((hb.block _ (lt_of_heap HB0.out.2)).trans HB0.out.2)); clear hr hb hrd)
      | (go_at_call 28; refine (C1.out _ HR1.out).mono ?_; rintro e W2 ⟨rfl, hr, ht⟩; have HR2 := hide hr; have HB2 := hide (turned HB1.out ht); clear hr ht)
      | (go_at_call 28; refine (C2.out _ HR2.out).mono ?_; rintro e W3 ⟨rfl, hr, ht⟩; have HR3 := hide hr; have HB3 := hide (turned HB2.out ht); clear hr ht)
      | (go_at_call 28; refine (C3.out _ HR3.out).mono ?_; rintro e W4 ⟨rfl, hr, ht⟩; have HR4 := hide hr; have HB4 := hide (turned HB3.out ht); clear hr ht)
      | (go_at_call 32; refine (C4.out _ HR4.out).mono ?_; rintro e W5 ⟨rfl, hr, ht⟩; have HR5 := hide hr; have HB5 := hide (turned HB4.out ht); obtain ⟨c0, c1, c2, c3⟩ := pk_cells HB5.out.2; obtain ⟨f0, f1, f2, f3⟩ := pk_free HB5.out.2; clear hr ht)
      | (go_at_call 33; refine (C5.out _ (rd_alloc HR5.out _)).mono ?_; rintro e W6 ⟨rfl, hw⟩; subst hw; have HBA := hide ((Below.heap_alloc W5 (.cells #[.int .i64 (n1 : Int), .int .i64 (n2 : Int), .int .i64 (n3 : Int), .string sd] 23) _ (lt_of_heap HB5.out.2)).trans HB5.out.2); obtain ⟨c0, c1, c2, c3⟩ := pk_cells HBA.out; obtain ⟨f0, f1, f2, f3⟩ := pk_free HBA.out)
      | (go_at_call 9; refine (C6.out _).mono ?_; rintro e W7 ⟨rfl, hb⟩; have HB7 := hide (goodup HB5.out hb); have HX7 := hide (pup W5 n1 n2 n3 sd W7 hb); obtain ⟨c0, c1, c2, c3⟩ := pk_cells HB7.out.2; obtain ⟨f0, f1, f2, f3⟩ := pk_free HB7.out.2; obtain ⟨d0, d1, d2, d3⟩ := pk_cells HX7.out; clear hb))
    exact bodyPost_ret (results_ct rfl _ _ w.heap.size 23 _ (0, 0) _ rfl (pk_set HB7.out.2) Try.underlying23 rfl (by kernel_rfl)) rfl ⟨by rw [HV.out]; rfl, (((HB7.out.1.setCell (Nat.le_refl _) _).setCell (Nat.le_refl _) _).setCell (Nat.le_refl _) _).setCell (Nat.le_refl _) _⟩
   | true =>
    have HV : Hid (R = (((n1 : Int), (n2 : Int), (n3 : Int), sd), true)) := hide (by rw [HP.out]; rfl)
    clear HP
    go_enter Try.func20, Try.ntmps20
    go_wp2_with (first
      | (go_at_call 27; refine hrd.mono ?_; rintro e W1 ⟨rfl, hr, hb⟩; rw [World.size_alloc] at hr; have HR1 := hide hr; have HB1 := hide (And.intro (HB0.out.1.trans (hb.mono HB0.out.1.size)) ((hb.block _ (lt_of_heap HB0.out.2)).trans HB0.out.2)); clear hr hb hrd)
      | (go_at_call 28; refine (C1.out _ HR1.out).mono ?_; rintro e W2 ⟨rfl, hr, ht⟩; have HR2 := hide hr; have HB2 := hide (turned HB1.out ht); clear hr ht)
      | (go_at_call 28; refine (C2.out _ HR2.out).mono ?_; rintro e W3 ⟨rfl, hr, ht⟩; have HR3 := hide hr; have HB3 := hide (turned HB2.out ht); clear hr ht)
      | (go_at_call 28; refine (C3.out _ HR3.out).mono ?_; rintro e W4 ⟨rfl, hr, ht⟩; have HR4 := hide hr; have HB4 := hide (turned HB3.out ht); clear hr ht)
      | (go_at_call 32; refine (C4.out _ HR4.out).mono ?_; rintro e W5 ⟨rfl, hr, ht⟩; have HR5 := hide hr; have HB5 := hide (turned HB4.out ht); obtain ⟨c0, c1, c2, c3⟩ := pk_cells HB5.out.2; obtain ⟨f0, f1, f2, f3⟩ := pk_free HB5.out.2; clear hr ht)
      | (go_at_call 33; refine (C5.out _ (rd_alloc HR5.out _)).mono ?_; rintro e W6 ⟨rfl, hw⟩; subst hw; have HBA := hide ((Below.heap_alloc W5 (.cells #[.int .i64 (n1 : Int), .int .i64 (n2 : Int), .int .i64 (n3 : Int), .string sd] 23) _ (lt_of_heap HB5.out.2)).trans HB5.out.2); obtain ⟨c0, c1, c2, c3⟩ := pk_cells HBA.out; obtain ⟨f0, f1, f2, f3⟩ := pk_free HBA.out)
      | (go_at_call 9; refine (C6.out _).mono ?_; rintro e W7 ⟨rfl, hb⟩; have HB7 := hide (goodup HB5.out hb); have HX7 := hide (pup W5 n1 n2 n3 sd W7 hb); obtain ⟨c0, c1, c2, c3⟩ := pk_cells HB7.out.2; obtain ⟨f0, f1, f2, f3⟩ := pk_free HB7.out.2; obtain ⟨d0, d1, d2, d3⟩ := pk_cells HX7.out; clear hb))
    exact bodyPost_ret (results_ct rfl _ _ w.heap.size 23 _ (0, 0) _ rfl (pk_set HB7.out.2) Try.underlying23 rfl (by kernel_rfl)) rfl ⟨by rw [HV.out]; rfl, (((HB7.out.1.setCell (Nat.le_refl _) _).setCell (Nat.le_refl _) _).setCell (Nat.le_refl _) _).setCell (Nat.le_refl _) _⟩
end Go.Proofs.Ytgeboanebdmebab.F
