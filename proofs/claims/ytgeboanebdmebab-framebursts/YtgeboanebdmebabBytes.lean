/- Slices of bytes told by lists of natural numbers: what lies in memory, what a call owns, how it is turned into a string. No program is named here. -/
import Derived.WalkKit
import Derived.WalkLawsBesides
import Derived.WalkSpells
import Derived.Below
import Derived.KernelRfl
import Derived.Laws.BytesArg
import Derived.Deep.AppendLies
import Derived.Laws.AppendOwnNone
import Derived.Lib.SmallJoins
import Derived.ProofKit
import Derived.OpenShut
namespace Go.By
open Go.RowKit
set_option linter.unusedVariables false

theorem ret_int {k : IntKind} {a b : Int} (h : a = b) : Ending.returned (.int k a) = .returned (.int k b) := by rw [h]
theorem hide {p : Prop} (h : p) : Hid p := h

def B8 (c : Nat) : Value := .int .u8 (c : Int)

/-- The slice's bytes lie in memory, one cell each. -/
def Lies (w : World) (a : Option Addr) (l : List Nat) : Prop :=
  (∀ c ∈ l, c < 256) ∧ (l = [] ∨ ∃ b off, a = some ⟨b, off, none⟩ ∧ ∀ i, i < l.length → w.cell? ⟨b, off + i, none⟩ = some (.int .u8 ((l.getD i 0 : Nat) : Int)))

/-- A list of bytes that came in, and where it lies: in blocks below B. -/
def Came (B : Nat) (w : World) (a : Option Addr) (l : List Nat) : Prop :=
  (∀ c ∈ l, c < 256) ∧ (l = [] ∨ ∃ b off, a = some ⟨b, off, none⟩ ∧ b < B ∧ ∀ i, i < l.length → w.cell? ⟨b, off + i, none⟩ = some (.int .u8 ((l.getD i 0 : Nat) : Int)))

theorem take_snoc (l : List Nat) (k : Nat) (h : k < l.length) : l.take (k + 1) = l.take k ++ [l.getD k 0] := by
  rw [List.take_succ_eq_append_getElem h]; simp [List.getD, h]

theorem getD_lt {l : List Nat} (hl : ∀ c ∈ l, c < 256) (k : Nat) : l.getD k 0 < 256 := by
  by_cases h : k < l.length
  · have : l.getD k 0 = l[k] := by simp [List.getD, h]
    rw [this]; exact hl _ (List.getElem_mem h)
  · have : l.getD k 0 = 0 := by simp [List.getD, Nat.le_of_not_lt h]
    omega

theorem getD_take (l : List Nat) (n i : Nat) (h : i < n) : (l.take n).getD i 0 = l.getD i 0 := by simp [List.getD, h]
theorem getD_drop (l : List Nat) (n i : Nat) : (l.drop n).getD i 0 = l.getD (n + i) 0 := by simp [List.getD]

theorem Came.lies {B : Nat} {w : World} {a : Option Addr} {l : List Nat} (h : Came B w a l) : Lies w a l :=
  ⟨h.1, h.2.elim .inl fun ⟨b, off, e, _, hc⟩ => .inr ⟨b, off, e, hc⟩⟩

theorem Came.below {B : Nat} {w w' : World} {a : Option Addr} {l : List Nat} (h : Came B w a l) (hb : Below B w w') : Came B w' a l :=
  ⟨h.1, h.2.elim .inl fun ⟨b, off, e, hlt, hc⟩ => .inr ⟨b, off, e, hlt, fun i hi => (hb.cell (p := ⟨b, off + i, none⟩) hlt).trans (hc i hi)⟩⟩

theorem Came.mono {B B' : Nat} {w : World} {a : Option Addr} {l : List Nat} (h : Came B w a l) (hB : B ≤ B') : Came B' w a l :=
  ⟨h.1, h.2.elim .inl fun ⟨b, off, e, hlt, hc⟩ => .inr ⟨b, off, e, Nat.lt_of_lt_of_le hlt hB, hc⟩⟩

theorem Came.take {B : Nat} {w : World} {a : Option Addr} {l : List Nat} (h : Came B w a l) (n : Nat) : Came B w a (l.take n) := by
  refine ⟨fun c hc => h.1 c (List.mem_of_mem_take hc), ?_⟩
  rcases h.2 with rfl | ⟨b, off, rfl, hlt, hc⟩
  · left; simp
  · right
    refine ⟨b, off, rfl, hlt, fun i hi => ?_⟩
    have h1 : i < n ∧ i < l.length := by simp at hi; omega
    rw [hc i h1.2, getD_take l n i h1.1]

theorem Lies.came {w : World} {a : Option Addr} {l : List Nat} (h : Lies w a l) : Came w.heap.size w a l := by
  refine ⟨h.1, h.2.elim .inl fun ⟨b, off, e, hc⟩ => ?_⟩
  by_cases h0 : l = []
  · exact .inl h0
  · refine .inr ⟨b, off, e, ?_, hc⟩
    have : 0 < l.length := List.length_pos_iff.2 h0
    exact World.block_lt_of_cell? w _ (hc 0 this)

/-- What a call owns: the value v leads to a row of the call's own (blocks from 'base' on) that begins with the bytes l. -/
def Owns (w : World) (base : Nat) (v : Value) (l : List Nat) : Prop :=
  w.ownsRow base 5 1 v l.length (l.map B8) ∧ ∀ c ∈ l, c < 256

theorem Owns.form {w : World} {base : Nat} {v : Value} {l : List Nat} (h : Owns w base v l) :
    ∃ a cap, v = .slice a l.length cap ∧ l.length ≤ cap ∧ cap ≤ maxLen ∧ Lies w a l ∧ (a = none → l = [] ∧ cap = 0) ∧ ∀ x, a = some x → base ≤ x.block ∧ x.block < w.heap.size ∧ x.off = 0 ∧ x.spot = none := by
  obtain ⟨h, hb⟩ := h
  rcases h.2 with ⟨rfl, h0⟩ | ⟨g, cap, cur, rfl, hg, hh, hn, hm, hs, ht⟩
  · have : l = [] := List.length_eq_zero_iff.1 h0
    subst this
    exact ⟨none, 0, rfl, Nat.le_refl _, by unfold maxLen; omega, ⟨by simp, .inl rfl⟩, fun _ => ⟨rfl, rfl⟩, by simp⟩
  · have hgl : g < w.heap.size := by
      rcases Nat.lt_or_ge g w.heap.size with h1 | h1
      · exact h1
      · rw [Array.getElem?_eq_none h1] at hh; cases hh
    refine ⟨some ⟨g, 0, none⟩, cap, rfl, hn, hm, ⟨hb, .inr ⟨g, 0, rfl, fun i hi => ?_⟩⟩, by simp, fun x hx => by cases hx; exact ⟨hg, hgl, rfl, rfl⟩⟩
    rw [Nat.zero_add, Joins.cell_of_block hh]
    have e1 : cur[i]? = (cur.toList.take (l.length * 1))[i]? := by rw [List.getElem?_take_of_lt (by omega)]; simp
    rw [e1, ht]
    simp [List.getD, hi, B8]

theorem Owns.mono {w : World} {base base' : Nat} {v : Value} {l : List Nat} (h : Owns w base v l) (hb : base' ≤ base) : Owns w base' v l :=
  ⟨Joins.ownsRow_le h.1 hb, h.2⟩

theorem Owns.small {w : World} {base : Nat} {v : Value} {l : List Nat} (h : Owns w base v l) : ∀ c ∈ l, c < 256 := h.2

theorem Owns.alloc {w : World} {base : Nat} {v : Value} {l : List Nat} (h : Owns w base v l) (o : Obj) : Owns (w.alloc o) base v l := ⟨h.1.alloc o, h.2⟩

theorem Owns.below {w w' : World} {base : Nat} {v : Value} {l : List Nat} (h : Owns w base v l) (hb : Below w.heap.size w w') : Owns w' base v l := by
  obtain ⟨⟨h0, h1⟩, h2⟩ := h
  refine ⟨⟨h0, h1.elim .inl fun ⟨g, cap, cur, hv, hg, hh, r⟩ => .inr ⟨g, cap, cur, hv, hg, ?_, r⟩⟩, h2⟩
  have hgl : g < w.heap.size := by
    rcases Nat.lt_or_ge g w.heap.size with h1 | h1
    · exact h1
    · rw [Array.getElem?_eq_none h1] at hh; cases hh
  rw [hb.block g hgl, hh]

theorem Owns.nil (w : World) (base : Nat) : Owns w base (.slice none 0 0) [] := ⟨World.ownsRow_nil _ _ _ _, by simp⟩

theorem Owns.append {w : World} {base : Nat} {v : Value} {l m : List Nat} (h : w.ownsRow base 5 1 v (l.length + m.length) (l.map B8 ++ m.map B8)) (h1 : ∀ c ∈ l, c < 256) (h2 : ∀ c ∈ m, c < 256) : Owns w base v (l ++ m) := by
  refine ⟨by simpa using h, fun c hc => ?_⟩
  rcases List.mem_append.1 hc with hc | hc
  · exact h1 c hc
  · exact h2 c hc

/-- The cells that an append takes over. -/
theorem news_of_lies {w : World} {b off : Nat} {l : List Nat} (hc : ∀ i, i < l.length → w.cell? ⟨b, off + i, none⟩ = some (.int .u8 ((l.getD i 0 : Nat) : Int))) :
    ∀ j u, (l.map B8)[j]? = some u → w.cell? ((⟨b, off, none⟩ : Addr).add j) = some u := by
  intro j u hj
  have hadd : (⟨b, off, none⟩ : Addr).add j = ⟨b, off + j, none⟩ := by unfold Addr.add; split <;> simp_all
  have hlt : j < l.length := by
    rcases Nat.lt_or_ge j l.length with h | h
    · exact h
    · simp [h] at hj
  rw [hadd, hc j hlt]
  simp [hlt, B8] at hj
  simp [List.getD, hlt, hj]

theorem oneCell_B8 (l : List Nat) : ∀ u ∈ l.map B8, u.oneCell' = true := by
  intro u hu
  obtain ⟨c, _, rfl⟩ := List.mem_map.1 hu
  rfl

/-- The string of these bytes. -/
def str (l : List Nat) : ByteArray := ⟨(l.map fun n => UInt8.ofNat n).toArray⟩

theorem str_size (l : List Nat) : (str l).size = l.length := by simp [str, ByteArray.size]

theorem str_inj {l m : List Nat} (hl : ∀ c ∈ l, c < 256) (hm : ∀ c ∈ m, c < 256) (h : str l = str m) : l = m := by
  have h1 : (l.map fun n => UInt8.ofNat n) = (m.map fun n => UInt8.ofNat n) := by
    have := congrArg (fun s : ByteArray => s.data.toList) h
    simpa [str] using this
  have h2 := congrArg (List.map UInt8.toNat) h1
  rw [List.map_map, List.map_map] at h2
  have e : ∀ (k : List Nat), (∀ c ∈ k, c < 256) → k.map (UInt8.toNat ∘ fun n => UInt8.ofNat n) = k := by
    intro k hk
    conv => rhs; rw [← List.map_id k]
    apply List.map_congr_left
    intro c hc
    have := hk c hc
    simp; omega
  rw [e l hl, e m hm] at h2
  exact h2

theorem run_str {P : Program} {w : World} {a : Option Addr} {l : List Nat} (src e dst : TypeId) (hs : P.underlying src = some (.slice e)) (he : P.underlying e = some (.int .u8)) (hd : P.underlying dst = some .string) (hL : Lies w a l) (n cap : Nat) (hn : l.length = n) :
    (convert src dst (.slice a n cap)).run P w = .ok (.string (str l)) w := by
  subst hn
  rcases hL.2 with rfl | ⟨b, off, rfl, hc⟩
  · cases a with
    | none => rw [run_convert_bytes_nil w src e hs he _ _ dst hd]; rfl
    | some x =>
      have hl : (loadCells x 0).run P w = .ok (([] : List Int).map (Value.int .u8)).toArray w := run_loadCells_list (P := P) w x [] (by simp)
      rw [List.length_nil, run_convert_bytes_string w src dst e _ 0 cap hs he hd, run_bytesToString w _ 0 cap [] hl]; rfl
  · rw [run_convert_bytes_arg w src e hs he b off l.length cap (l.map fun n : Nat => (n : Int)) (by simp) (fun i hi => by rw [hc i hi]; simp [List.getD, hi]) dst hd]
    simp only [strOfNums, str, List.map_map]
    congr 3

/-- What the walk is told of a slice of integers that came in: it is nil; or it leads to a row of 'cap' cells, the numbers 'zs' (the first 'len' are its elements, the rest its spare room), each fitting its kind. -/
def IsRow (k : IntKind) (w : World) (a : Option Addr) (len cap : Nat) (zs : List Int) : Prop :=
  (a = none ∧ len = 0 ∧ cap = 0 ∧ zs = []) ∨
  ∃ x, a = some x ∧ len ≤ cap ∧ cap ≤ maxLen ∧ zs.length = cap ∧ (∀ i, i < zs.length → w.cell? (x.add i) = some (.int k (zs.getD i 0))) ∧ ∀ n ∈ zs, (Lit.int k n).wf = true

theorem u8_bounds {n : Int} (h : (Lit.int .u8 n).wf = true) : 0 ≤ n ∧ n < 256 := by
  simp [Lit.wf, IntKind.min, IntKind.max, IntKind.bits, IntKind.signed] at h
  omega

theorem came_of_row {w : World} {a : Option Addr} {len cap : Nat} {zs : List Int} (h : IsRow .u8 w a len cap zs) :
    ∃ l : List Nat, l.length = len ∧ len ≤ cap ∧ cap ≤ maxLen ∧ Came w.heap.size w a l := by
  rcases h with ⟨rfl, rfl, rfl, rfl⟩ | ⟨x, rfl, hl, hm, hz, hcell, hwz⟩
  · exact ⟨[], rfl, Nat.le_refl _, Nat.zero_le _, by simp, .inl rfl⟩
  · refine ⟨(zs.take len).map Int.toNat, by simp; omega, hl, hm, ?_, ?_⟩
    · intro c hc
      simp only [List.mem_map] at hc
      obtain ⟨z, hz1, rfl⟩ := hc
      have := u8_bounds (hwz z (List.mem_of_mem_take hz1))
      omega
    · by_cases h0 : len = 0
      · left; simp [h0]
      · right
        obtain ⟨b, off, spot⟩ := x
        have hc := hcell 0 (by omega)
        have hspot : spot = none := by simpa [Addr.add] using World.cell?_spot hc
        subst hspot
        refine ⟨b, off, rfl, World.block_lt_of_cell? w _ hc, fun i hi => ?_⟩
        have hi' : i < len := by simp at hi; omega
        have := hcell i (by omega)
        have e : ((zs.take len).map Int.toNat).getD i 0 = (zs.getD i 0).toNat := by
          simp [List.getD, hi']
          have : i < zs.length := by omega
          simp [this]
        have hb := u8_bounds (hwz (zs.getD i 0) (by have h1 : i < zs.length := by omega
                                                    simp [List.getD, h1]))
        rw [e, Int.toNat_of_nonneg hb.1]
        by_cases hi0 : i = 0
        · subst hi0; simpa [Addr.add] using this
        · simpa [Addr.add, hi0] using this

theorem Below.app {B base : Nat} {w0 w w' : World} {v : Value} {l : List Nat} (h : Below B w0 w) (hg : w.grownBy w' v.ownBlock) (ho : Owns w base v l) (hB : B ≤ base) (hw : B ≤ w.heap.size) : Below B w0 w' :=
  h.grown hg hw fun k hk => Nat.le_trans hB (ho.1.lt k hk).1

/-- A new empty row. -/
theorem owns_empty (w : World) (base : Nat) (hb : base ≤ w.heap.size) : Owns (w.alloc (.cells #[] 5)) base (.slice (some ⟨w.heap.size, 0, none⟩) 0 0) [] :=
  ⟨World.ownsRow_made w #[] 0 hb (by unfold maxLen; omega) rfl, by simp⟩

/-- 'append(own, src...)', whatever the source: nil or not. -/
theorem wpList_append_bytes {P : Program} {w : World} {ops : Array Oper} {rest : List Oper} {o : Oper} {a : Act} {Q : Exit → Act → World → Prop} (hgd : o.guard = none) (s x : Operand)
    (ho : o.op = .call { callee := .builtin .append, args := #[s, x], argTypes := #[27, 27] })
    (ht : P.underlying 27 = some (.slice 5)) (hinfo : (P.info? 5).map (fun i => (i.zero, i.size, i.bytes)) = some (some (.int .u8 0), 1, 1)) (base : Nat)
    (v : Value) (l : List Nat) (hs : a.eval s = v) (hown : Owns w base v l)
    (ad : Option Addr) (m : List Nat) (n cap : Nat) (hx : a.eval x = .slice ad n cap) (hn : m.length = n) (hm : Lies w ad m) (hnil : ad = none → m = [] ∧ cap = 0)
    (hsz : l.length + n ≤ 140737488355328) (hbase : base ≤ w.heap.size)
    (h : ∀ v' w', Owns w' base v' (l ++ m) → w.grownBy w' v.ownBlock → wpList P ops Q rest (a.put o.dst v') w') : wpList P ops Q (o :: rest) a w := by
  obtain ⟨i0, hi, hz0, hz1, hz2⟩ := info_parts hinfo
  subst hn
  cases ad with
  | none =>
    obtain ⟨rfl, rfl⟩ := hnil rfl
    refine wpList_append_own_none hgd s x 27 ho base 5 i0 1 ht hi v l.length (l.map B8) hs hown.1 hx (h v w (by simpa using hown) ?_)
    exact ⟨rfl, rfl, rfl, Nat.le_refl _, fun _ _ _ => rfl⟩
  | some y =>
    have hnews : ∀ j u, (m.map B8)[j]? = some u → w.cell? (y.add j) = some u := by
      rcases hm.2 with rfl | ⟨b, off, e, hc⟩
      · simp
      · cases e; exact news_of_lies hc
    refine wpList_append_own w hgd s x 27 ho base 5 i0 (.int .u8 0) 1 1 ht hi hz0 hz1 hz2 rfl (by decide) v l.length (l.map B8) hs hown.1 y m.length cap (m.map B8) hx (by simp) hnews (oneCell_B8 m) (by unfold maxLen; omega) (by omega) hbase ?_
    intro v' w' h1 h2 _
    exact h v' w' (Owns.append h1 hown.2 hm.1) h2

/-- 'append(own, c)': the byte is laid in a new block first. -/
theorem wpList_append_byte {P : Program} {w : World} {ops : Array Oper} {rest : List Oper} {o : Oper} {a : Act} {Q : Exit → Act → World → Prop} (hgd : o.guard = none) (s x : Operand)
    (ho : o.op = .call { callee := .builtin .append, args := #[s, x], argTypes := #[27, 27] })
    (ht : P.underlying 27 = some (.slice 5)) (hinfo : (P.info? 5).map (fun i => (i.zero, i.size, i.bytes)) = some (some (.int .u8 0), 1, 1)) (base : Nat)
    (v : Value) (l : List Nat) (hs : a.eval s = v) (hown : Owns w base v l) (c : Nat) (z : Int) (hz : z = (c : Int)) (hc : c < 256)
    (H : Nat) (hH : H = w.heap.size) (hx : a.eval x = .slice (some ⟨H, 0, none⟩) 1 1)
    (hsz : l.length + 1 ≤ 140737488355328) (hbase : base ≤ w.heap.size)
    (h : ∀ v' w', Owns w' base v' (l ++ [c]) → (w.alloc (.cells #[.int .u8 z] 5)).grownBy w' v.ownBlock → wpList P ops Q rest (a.put o.dst v') w') : wpList P ops Q (o :: rest) a (w.alloc (.cells #[.int .u8 z] 5)) := by
  subst hz hH
  refine wpList_append_bytes hgd s x ho ht hinfo base v l hs (hown.alloc _) (some ⟨w.heap.size, 0, none⟩) [c] 1 1 hx rfl ⟨by simpa using hc, .inr ⟨_, _, rfl, ?_⟩⟩ (by simp) hsz (by simp; omega) h
  intro i hi
  have : i = 0 := by simp at hi; omega
  subst this
  simp [go_sem]

end Go.By
