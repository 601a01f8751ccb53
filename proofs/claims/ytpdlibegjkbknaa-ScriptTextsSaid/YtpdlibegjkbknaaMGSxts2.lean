/-
  Own words: a world that has turned in some blocks alone (and has new ones). No program. No conditions beyond what each theorem names.
  Own words: a row of bytes read as a string; a step that kept rows apart. No program. No conditions beyond what each theorem names.
  Own words: two rows of bytes that read as one string are the same. No program. No conditions beyond what each theorem names.
  Layer 30, texts: hexadecimal digits: plain words. No program. No conditions beyond what each theorem names.
-/
import Derived.Test.YtpdlibegjkbknaaMMem
import Derived.Laws.BytesArg
namespace Go.Proofs.Ytpdlibegjkbknaa.Kit
open Go.ChangeShapes Go.WideShapes Go.ChangeAt Go.RowKit

/-- From w to w' nothing has turned but blocks in S and new ones. -/
structure TurnsIn (S : Nat → Prop) (w w' : World) : Prop where
  os : w'.os = w.os
  tape : w'.tape = w.tape
  output : w'.output = w.output
  size : w.heap.size ≤ w'.heap.size
  block : ∀ b, b < w.heap.size → ¬ S b → w'.heap[b]? = w.heap[b]?

section
variable {S T : Nat → Prop} {w w' w1 w2 : World} {B : Nat} {e : TypeId} {k : IntKind} {v : Value} {xs : List Int}

theorem TurnsIn.refl (S : Nat → Prop) (w : World) : TurnsIn S w w := ⟨rfl, rfl, rfl, Nat.le_refl _, fun _ _ _ => rfl⟩
theorem TurnsIn.trans (h : TurnsIn S w w1) (g : TurnsIn S w1 w2) : TurnsIn S w w2 :=
  ⟨g.os.trans h.os, g.tape.trans h.tape, g.output.trans h.output, Nat.le_trans h.size g.size, fun b hb hs => (g.block b (Nat.lt_of_lt_of_le hb h.size) hs).trans (h.block b hb hs)⟩
/-- The second step may turn what is new in the first one, too. -/
theorem TurnsIn.then_ (h : TurnsIn S w w1) (g : TurnsIn T w1 w2) (hT : ∀ b, b < w.heap.size → T b → S b) : TurnsIn S w w2 :=
  ⟨g.os.trans h.os, g.tape.trans h.tape, g.output.trans h.output, Nat.le_trans h.size g.size, fun b hb hs => (g.block b (Nat.lt_of_lt_of_le hb h.size) (fun ht => hs (hT b hb ht))).trans (h.block b hb hs)⟩
theorem TurnsIn.mono (h : TurnsIn S w w') (hT : ∀ b, b < w.heap.size → S b → T b) : TurnsIn T w w' := ⟨h.os, h.tape, h.output, h.size, fun b hb hs => h.block b hb (fun hx => hs (hT b hb hx))⟩
theorem TurnsIn.ofBelow (h : Below B w w') (hs : ∀ b, b < w.heap.size → B ≤ b → S b) : TurnsIn S w w' :=
  ⟨h.os, h.tape, h.output, h.size, fun b hb hn => h.block b (Nat.lt_of_not_le fun hle => hn (hs b hb hle))⟩
theorem TurnsIn.ofNew (h : Below w.heap.size w w') : TurnsIn S w w' := .ofBelow h fun b hb hle => absurd hb (by omega)
theorem TurnsIn.ofGrown {row : Option Nat} (h : w.grownBy w' row) (hs : ∀ b, row = some b → S b) : TurnsIn S w w' :=
  ⟨h.os, h.tape, h.output, h.size, fun b hb hn => h.block b hb fun he => hn (hs b he.symm)⟩
theorem TurnsIn.toBelow (h : TurnsIn S w w') (hB : B ≤ w.heap.size) (hs : ∀ b, b < B → ¬ S b) : Below B w w' :=
  ⟨h.os, h.tape, h.output, h.size, fun b hb => h.block b (by omega) (hs b hb)⟩
theorem TurnsIn.drewN (h : TurnsIn S w w') (n : Nat) : TurnsIn S w (w'.drewN n) := ⟨h.os, h.tape, h.output, h.size, h.block⟩
theorem TurnsIn.alloc (h : TurnsIn S w w') (o : Obj) : TurnsIn S w (w'.alloc o) :=
  ⟨h.os, h.tape, h.output, Nat.le_trans h.size (by simp), fun b hb hn => (Below.heap_alloc w' o b (Nat.lt_of_lt_of_le hb h.size)).trans (h.block b hb hn)⟩
theorem TurnsIn.setCell (h : TurnsIn S w w') {p : Addr} (hp : S p.block ∨ w.heap.size ≤ p.block) (u : Value) : TurnsIn S w (w'.setCell p u) :=
  ⟨h.os, h.tape, h.output, by simpa [World.setCell] using h.size, fun b hb hn => (Below.heap_setCell w' p u b (by
    rintro rfl
    rcases hp with hp | hp
    · exact hn hp
    · omega)).trans (h.block b hb hn)⟩

theorem Own.out (h : Own w B e k v xs) (ho : TurnsIn S w w') (hv : ∀ g, v.ownBlock = some g → ¬ S g) : Own w' B e k v xs := by
  rcases h.2 with ⟨rfl, h0⟩ | ⟨g, cap, cur, rfl, hbg, hg, hnc, hcm, hcs, htake⟩
  · exact ⟨h.1, .inl ⟨rfl, h0⟩⟩
  · exact ⟨h.1, .inr ⟨g, cap, cur, rfl, hbg, (ho.block g (Array.getElem?_eq_some_iff.1 hg).1 (hv g rfl)).trans hg, hnc, hcm, hcs, htake⟩⟩
theorem Block.out {g : Nat} {t : TypeId} {cs : Array Value} (h : Block w g t cs) (ho : TurnsIn S w w') (hg : ¬ S g) : Block w' g t cs := (ho.block g h.lt hg).trans h
theorem Holds.out {A : Option Addr} (h : Holds w B k A xs) (ho : TurnsIn S w w') (hB : B ≤ w.heap.size) (hs : ∀ b, b < B → ¬ S b) : Holds w' B k A xs := h.below (ho.toBelow hB hs)

/-- What turned keeps a block's kind of row: a row that grew lies where it lay, or is new. -/
def Newer (w : World) (v v' : Value) : Prop := v'.ownBlock = v.ownBlock ∨ ∀ g, v'.ownBlock = some g → w.heap.size ≤ g
theorem Newer.refl (w : World) (v : Value) : Newer w v v := .inl rfl
theorem Newer.trans {v1 v2 : Value} (h : Newer w v v1) (hs : w.heap.size ≤ w1.heap.size) (g : Newer w1 v1 v2) : Newer w v v2 := by
  rcases g with g | g
  · rcases h with h | h
    · exact .inl (g.trans h)
    · exact .inr fun x hx => h x (g ▸ hx)
  · exact .inr fun x hx => Nat.le_trans hs (g x hx)
theorem Newer.ofApp {v' : Value} (h : v'.ownBlock = v.ownBlock ∨ v'.ownBlock = some w.heap.size) : Newer w v v' := by
  rcases h with h | h
  · exact .inl h
  · exact .inr fun g hg => by rw [h] at hg; injection hg with hg; omega
/-- A row of one's own that lies apart from another one stays apart. -/
theorem Newer.apart {v' u : Value} {g : Nat} (h : Newer w v v') (hu : u.ownBlock = some g) (hl : g < w.heap.size) (hn : v.ownBlock ≠ some g) : v'.ownBlock ≠ some g := by
  rcases h with h | h
  · rw [h]; exact hn
  · intro he; have := h g he; omega
end

/-- append(v, ys...), as one step of a region that draws its order. -/
theorem step_append_ints {P : Program} {ops : Array Oper} {o : Oper} {a : Act} {w : World} {K : Act → World → Prop} {Q : Exit → Act → World → Prop} {E : Prop}
    (hg : o.guard = none) (s x : Operand) (t : TypeId) (ho : o.op = Op.call { callee := Callee.builtin Builtin.append, args := #[s, x], argTypes := #[t, t] })
    {e : TypeId} {k : IntKind} {bytes : Nat} (he : IntElem P t e k bytes) {B B' : Nat} {v : Value} {xs ys : List Int} (hown : Own w B e k v xs) (hs : a.eval s = v)
    {A : Option Addr} {c : Nat} (hx : a.eval x = .slice A ys.length c) (hr : Holds w B' k A ys) (hsz : xs.length + ys.length ≤ 1099511627776) (hbase : B ≤ w.heap.size)
    (hK : ∀ v' w', Own w' B e k v' (xs ++ ys) → w.grownBy w' v.ownBlock → Below B w w' → (v'.ownBlock = v.ownBlock ∨ v'.ownBlock = some w.heap.size) → K (a.put o.dst v') w') :
    if Region.wanted o (yielded ops a.tmps) = true then Oper.wp P o a w K Q else E := by
  have hw : Region.wanted o (yielded ops a.tmps) = true := by simp [Region.wanted, hg]
  rw [if_pos hw]
  obtain ⟨v', w', hrun, h2, h3, h4⟩ := run_append_ints (P := P) w (ty := o.type) he hown c hr hsz hbase
  unfold Oper.wp
  simp [execOp, ho, resolve, invoke, builtin, hs, hx, hrun, Result.andThen]
  exact hK _ _ h2 h3 (below_of_grown h3 hbase fun g hg => (hown.lt g hg).1) h4

/-- append(v, z), z alone in the newest block, as one step of a region that draws its order; a block of other cells stays as it is. -/
theorem step_append_one {P : Program} {ops : Array Oper} {o : Oper} {a : Act} {w : World} {K : Act → World → Prop} {Q : Exit → Act → World → Prop} {E : Prop}
    (hg : o.guard = none) (s x : Operand) (t : TypeId) (ho : o.op = Op.call { callee := Callee.builtin Builtin.append, args := #[s, x], argTypes := #[t, t] })
    {e : TypeId} {k : IntKind} {bytes : Nat} (he : IntElem P t e k bytes) {B : Nat} {v : Value} {xs : List Int} {z : Int} (hown : Own w B e k v xs) (hs : a.eval s = v)
    {c : Nat} (hx : a.eval x = .slice (some ⟨w.heap.size, 0, none⟩) 1 c) (hsz : xs.length + 1 ≤ 1099511627776) (hbase : B ≤ w.heap.size)
    {g : Nat} {tg : TypeId} {cs : Array Value} (hblk : Block w g tg cs) (hne : e ≠ tg)
    (hK : ∀ A' c' w', Own w' B e k (.slice A' (xs.length + 1) c') (xs ++ [z]) → TurnsIn (fun b => v.ownBlock = some b) w w' → Newer w v (.slice A' (xs.length + 1) c') → Block w' g tg cs → K (a.put o.dst (.slice A' (xs.length + 1) c')) w') :
    if Region.wanted o (yielded ops a.tmps) = true then Oper.wp P o a (w.alloc (.cells #[.int k z] e)) K Q else E := by
  refine step_append_ints (ys := [z]) hg s x t ho he (hown.alloc _) hs hx (Holds.new w k z e) (by simpa using hsz) (by simp; omega) ?_
  intro v' w' h1 h2 h3 h4
  obtain ⟨A', c', rfl, _, _, _⟩ := h1.opened
  have hlen : (xs ++ [z]).length = xs.length + 1 := by simp
  have hk := hK A' c' w'
  rw [hlen] at h1 h4
  rw [hlen]
  refine hk h1 (((TurnsIn.refl _ w).alloc _).trans (.ofGrown h2 fun b hb => hb)) ?_ ((hblk.alloc _).grown h2 (hown.ne_block hblk hne))
  rcases h4 with h4 | h4
  · exact .inl h4
  · exact .inr fun g hg => by rw [h4] at hg; simp at hg; omega

/-- The same behind the region's draw. -/
theorem step_append_one_drew {P : Program} {ops : Array Oper} {o : Oper} {a : Act} {w : World} {K : Act → World → Prop} {Q : Exit → Act → World → Prop} {E : Prop}
    (hg : o.guard = none) (s x : Operand) (t : TypeId) (ho : o.op = Op.call { callee := Callee.builtin Builtin.append, args := #[s, x], argTypes := #[t, t] })
    {e : TypeId} {k : IntKind} {bytes : Nat} (he : IntElem P t e k bytes) {B : Nat} {v : Value} {xs : List Int} {z : Int} (hown : Own w B e k v xs) (hs : a.eval s = v)
    {c : Nat} (hx : a.eval x = .slice (some ⟨w.heap.size, 0, none⟩) 1 c) (hsz : xs.length + 1 ≤ 1099511627776) (hbase : B ≤ w.heap.size)
    {g : Nat} {tg : TypeId} {cs : Array Value} (hblk : Block w g tg cs) (hne : e ≠ tg)
    (hK : ∀ A' c' w', Own w' B e k (.slice A' (xs.length + 1) c') (xs ++ [z]) → TurnsIn (fun b => v.ownBlock = some b) w w' → Newer w v (.slice A' (xs.length + 1) c') → Block w' g tg cs → K (a.put o.dst (.slice A' (xs.length + 1) c')) w') :
    if Region.wanted o (yielded ops a.tmps) = true then Oper.wp P o a (w.alloc (.cells #[.int k z] e)).drew K Q else E := by
  have h := step_append_one (E := E) (K := K) (Q := Q) (ops := ops) (w := w.drew) (z := z) hg s x t ho he (by exact hown) hs hx hsz hbase (by exact hblk) hne
    (fun A' c' w' h1 h2 h3 h4 => hK A' c' w' h1 ⟨h2.os, h2.tape, h2.output, h2.size, h2.block⟩ h3 h4)
  exact h
end Go.Proofs.Ytpdlibegjkbknaa.Kit

namespace Go.Proofs.Ytpdlibegjkbknaa.Kit
open Go.ChangeShapes Go.WideShapes Go.ChangeAt Go.RowKit

theorem conv_bytes {P : Program} {t e ts : TypeId} (ht : P.underlying t = some (.slice e)) (he : P.underlying e = some (.int .u8)) (hs : P.underlying ts = some .string)
    (w : World) (A : Option Addr) (xs : List Int) (c B : Nat) (hr : Holds w B .u8 A xs) :
    (convert t ts (.slice A xs.length c)).run P w = .ok (.string (strOfNums xs)) w := by
  rcases Nat.eq_zero_or_pos xs.length with h0 | h0
  · obtain rfl : xs = [] := List.eq_nil_of_length_eq_zero h0
    cases A with
    | none => exact run_convert_bytes_nil w _ _ ht he _ _ _ hs
    | some ad =>
      have hl : (loadCells ad 0).run P w = .ok (([] : List Int).map (Value.int .u8)).toArray w := by simpa using run_loadCells_list (P := P) w ad [] (by simp)
      rw [run_convert_bytes_string w _ _ e _ _ c ht he hs]
      rw [show ([] : List Int).length = 0 from rfl, run_bytesToString w ad 0 c [] hl]
      rfl
  · obtain ⟨b, off, rfl, _, hc⟩ := hr h0
    exact run_convert_bytes_arg w _ _ ht he b off xs.length c xs rfl hc _ hs

/-- No block is both rows'. -/
def Apart (u v : Value) : Prop := ∀ b, u.ownBlock = some b → v.ownBlock ≠ some b
theorem Apart.symm {u v : Value} (h : Apart u v) : Apart v u := fun b hb hu => h b hu hb
theorem Apart.newer {w : World} {u v v' : Value} (h : Apart u v) (hu : ∀ b, u.ownBlock = some b → b < w.heap.size) (n : Newer w v v') : Apart u v' := by
  intro b hb
  rcases n with n | n
  · rw [n]; exact h b hb
  · intro he
    have h1 := n b he
    have h2 := hu b hb
    omega
theorem Own.top {w : World} {B : Nat} {e : TypeId} {k : IntKind} {v : Value} {xs : List Int} (h : Own w B e k v xs) : ∀ b, v.ownBlock = some b → b < w.heap.size := fun b hb => (h.lt b hb).2
/-- A new row is apart from all that was there. -/
theorem Apart.new {w w' : World} {B : Nat} {e : TypeId} {k : IntKind} {u v : Value} {xs : List Int} (h : Own w' B e k v xs) (hB : w.heap.size ≤ B) (hu : ∀ b, u.ownBlock = some b → b < w.heap.size) : Apart u v := by
  intro b hb he
  have h1 := h.lt b he
  have h2 := hu b hb
  omega

/-- n elements from the p-th on. -/
theorem Holds.sub {w : World} {B : Nat} {k : IntKind} {b off : Nat} {xs : List Int} (h : Holds w B k (some ⟨b, off, none⟩) xs) (p n : Nat) (hn : p + n ≤ xs.length) : Holds w B k (some ⟨b, off + p, none⟩) ((xs.drop p).take n) := by
  intro hx
  have hl : ((xs.drop p).take n).length = n := by simp; omega
  rw [hl] at hx
  obtain ⟨b2, o2, hA, hb, hc⟩ := h (by omega)
  injection hA with hA
  injection hA with e1 e2
  subst e1 e2
  refine ⟨b, off + p, rfl, hb, fun j hj => ?_⟩
  rw [hl] at hj
  rw [Nat.add_assoc, hc (p + j) (by omega)]
  simp [List.getD, List.getElem?_take, hj]
end Go.Proofs.Ytpdlibegjkbknaa.Kit

namespace Go.Proofs.Ytpdlibegjkbknaa.Kit
open Go.ChangeShapes Go.WideShapes Go.ChangeAt Go.RowKit

theorem strOfNums_inj {xs ys : List Int} (hx : Octets xs) (hy : Octets ys) (h : strOfNums xs = strOfNums ys) : xs = ys := by
  unfold strOfNums at h
  have h1 := congrArg (fun b : ByteArray => b.data.toList) h
  simp at h1
  have key : ∀ (xs ys : List Int), Octets xs → Octets ys → xs.map (fun n => UInt8.ofNat n.toNat) = ys.map (fun n => UInt8.ofNat n.toNat) → xs = ys := by
    intro xs
    induction xs with
    | nil => intro ys _ _ h; cases ys with
      | nil => rfl
      | cons y ys => simp at h
    | cons x xs ih =>
      intro ys hx hy h
      cases ys with
      | nil => simp at h
      | cons y ys =>
        simp only [List.map_cons, List.cons.injEq] at h
        have hxx := hx x (by simp)
        have hyy := hy y (by simp)
        have e := congrArg UInt8.toNat h.1
        simp only [UInt8.toNat_ofNat'] at e
        have : x = y := by omega
        rw [this, ih ys (fun z hz => hx z (by simp [hz])) (fun z hz => hy z (by simp [hz])) h.2]
  exact key xs ys hx hy h1
end Go.Proofs.Ytpdlibegjkbknaa.Kit

namespace Go.Proofs.Ytpdlibegjkbknaa.Tx
open Go.ChangeShapes Go.WideShapes Go.ChangeAt Go.RowKit Go.Proofs.Ytpdlibegjkbknaa.Kit

/-- A text's bytes as numbers. -/
def numsOf (s : ByteArray) : List Int := s.data.toList.map fun b => (b.toNat : Int)
theorem numsOf_length (s : ByteArray) : (numsOf s).length = s.size := by simp [numsOf]
theorem numsOf_octets (s : ByteArray) : Octets (numsOf s) := by
  intro x hx
  obtain ⟨b, _, rfl⟩ := List.mem_map.1 hx
  have := b.toNat_lt
  omega
theorem numsOf_get (s : ByteArray) (i : Nat) (h : i < s.size) : (numsOf s).getD i 0 = (s[i].toNat : Int) := by
  have h1 : i < s.data.toList.length := by simpa using h
  simp [numsOf, List.getD, List.getElem?_eq_getElem h1]
  rfl
theorem str_nums (s : ByteArray) : strOfNums (numsOf s) = s := by
  unfold strOfNums numsOf
  have : (s.data.toList.map fun b => (b.toNat : Int)).map (fun n => UInt8.ofNat n.toNat) = s.data.toList := by
    rw [List.map_map]
    refine (List.map_congr_left fun b _ => ?_).trans (List.map_id _)
    simp
  rw [this]
theorem nums_str {xs : List Int} (h : Octets xs) : numsOf (strOfNums xs) = xs :=
  strOfNums_inj (numsOf_octets _) h (str_nums _)

def dig (n : Int) : Int := if n < 10 then 48 + n else 87 + n
theorem dig_bd {n : Int} (h : 0 ≤ n ∧ n < 16) : 48 ≤ dig n ∧ dig n ≤ 102 := by unfold dig; split <;> omega
/-- Bytes as a text. -/
def twoD (x : Int) : List Int := [dig (x / 16), dig (x % 16)]
def hexL (xs : List Int) : List Int := if xs = [] then [46] else xs.flatMap twoD
theorem flat_length (xs : List Int) : (xs.flatMap twoD).length = 2 * xs.length := by
  induction xs with
  | nil => rfl
  | cons x xs ih => rw [List.flatMap_cons, List.length_append, ih]; simp [twoD]; omega
theorem flat_octets {xs : List Int} (h : Octets xs) : Octets (xs.flatMap twoD) := by
  intro x hx
  obtain ⟨y, hy, hxy⟩ := List.mem_flatMap.1 hx
  have hb := h y hy
  have h1 := dig_bd (n := y / 16) (by omega)
  have h2 := dig_bd (n := y % 16) (by omega)
  simp [twoD] at hxy
  omega
theorem hexL_octets {xs : List Int} (h : Octets xs) : Octets (hexL xs) := by
  unfold hexL
  split
  · intro x hx
    obtain rfl : x = 46 := by simpa using hx
    omega
  · exact flat_octets h

/-- A digit's value; below 0: it is none. -/
def valD (c : Int) : Int := if 48 ≤ c ∧ c ≤ 57 then c - 48 else if 97 ≤ c ∧ c ≤ 102 then c - 87 else -1
theorem valD_bd (c : Int) : -1 ≤ valD c ∧ valD c < 16 := by unfold valD; split <;> (try split) <;> omega
theorem valD_dig {n : Int} (h : 0 ≤ n ∧ n < 16) : valD (dig n) = n := by unfold valD dig; split <;> (try split) <;> (try split) <;> omega
/-- The bytes of two digits each; none, if one of them is no digit. -/
def pairs : List Int → Option (List Int)
  | [] => some []
  | [_] => none
  | a :: b :: r => if valD a < 0 ∨ valD b < 0 then none else match pairs r with
    | none => none
    | some l => some ((16 * valD a + valD b) :: l)
def unhexL (cs : List Int) : Option (List Int) := if cs = [46] then some [] else if cs = [] then none else pairs cs
theorem pairs_flat {xs : List Int} (h : Octets xs) : pairs (xs.flatMap twoD) = some xs := by
  induction xs with
  | nil => rfl
  | cons x xs ih =>
    have hx := h x (by simp)
    have h1 := valD_dig (n := x / 16) (by omega)
    have h2 := valD_dig (n := x % 16) (by omega)
    rw [List.flatMap_cons]
    show pairs (dig (x / 16) :: dig (x % 16) :: xs.flatMap twoD) = _
    rw [pairs, h1, h2, if_neg (by omega), ih fun y hy => h y (by simp [hy])]
    simp only [Option.some.injEq, List.cons.injEq, and_true]
    omega
theorem unhex_hex {xs : List Int} (h : Octets xs) : unhexL (hexL xs) = some xs := by
  unfold hexL
  by_cases h0 : xs = []
  · rw [if_pos h0, h0]; rfl
  · rw [if_neg h0]
    unfold unhexL
    have hl := flat_length xs
    have hp : 0 < xs.length := by cases xs with | nil => exact absurd rfl h0 | cons _ _ => simp
    rw [if_neg (by intro he; rw [he] at hl; simp at hl; omega), if_neg (by intro he; rw [he] at hl; simp at hl; omega)]
    exact pairs_flat h
/-- What Unhex answers: the bytes, and whether it is a text. -/
def unB (cs : List Int) : Bool := (unhexL cs).isSome
def unL (cs : List Int) : List Int := (unhexL cs).getD []
theorem pairs_octets : ∀ {cs l : List Int}, pairs cs = some l → Octets l
  | [], l, h => by rw [pairs] at h; injection h with h; subst h; intro x hx; simp at hx
  | [_], l, h => by rw [pairs] at h; cases h
  | a :: b :: r, l, h => by
    rw [pairs] at h
    split at h
    · cases h
    · next hn =>
      cases hr : pairs r with
      | none => rw [hr] at h; cases h
      | some q =>
        rw [hr] at h
        injection h with h
        subst h
        have h1 := valD_bd a
        have h2 := valD_bd b
        intro x hx
        rcases List.mem_cons.1 hx with rfl | hx
        · omega
        · exact pairs_octets hr x hx
/-- The first 2 k digits are such, and make these bytes. -/
theorem pairs_take : ∀ (k : Nat) (cs l : List Int), pairs (cs.take (2 * k)) = some l → 2 * k + 2 ≤ cs.length → pairs (cs.take (2 * (k + 1))) = if valD (cs.getD (2 * k) 0) < 0 ∨ valD (cs.getD (2 * k + 1) 0) < 0 then none else some (l ++ [16 * valD (cs.getD (2 * k) 0) + valD (cs.getD (2 * k + 1) 0)])
  | 0, cs, l, h, hl => by
    match cs, hl with
    | a :: b :: r, _ =>
      simp [pairs] at h
      subst h
      simp [pairs]
  | k + 1, cs, l, h, hl => by
    match cs, hl with
    | a :: b :: r, hl =>
      rw [show 2 * (k + 1) = 2 * k + 1 + 1 by omega, List.take_succ_cons, List.take_succ_cons, pairs] at h
      rw [show 2 * (k + 1 + 1) = 2 * (k + 1) + 1 + 1 by omega, List.take_succ_cons, List.take_succ_cons, pairs]
      split at h
      · cases h
      · next hn =>
        rw [if_neg hn]
        cases hr : pairs (r.take (2 * k)) with
        | none => rw [hr] at h; cases h
        | some q =>
          rw [hr] at h
          injection h with h
          subst h
          have ih := pairs_take k r q hr (by simp at hl; omega)
          rw [ih]
          have e1 : (a :: b :: r).getD (2 * (k + 1)) 0 = r.getD (2 * k) 0 := by rw [show 2 * (k + 1) = 2 * k + 1 + 1 by omega]; simp [List.getD]
          have e2 : (a :: b :: r).getD (2 * (k + 1) + 1) 0 = r.getD (2 * k + 1) 0 := by rw [show 2 * (k + 1) + 1 = 2 * k + 1 + 1 + 1 by omega]; simp [List.getD]
          rw [e1, e2]
          by_cases hP : valD (r.getD (2 * k) 0) < 0 ∨ valD (r.getD (2 * k + 1) 0) < 0
          · rw [if_pos hP, if_pos hP]
          · rw [if_neg hP, if_neg hP]
            rfl
/-- A wrong digit ahead makes all wrong. -/
theorem pairs_none : ∀ (k : Nat) (cs : List Int), pairs (cs.take (2 * k)) = none → 2 * k ≤ cs.length → pairs cs = none
  | 0, cs, h, _ => by simp [pairs] at h
  | k + 1, cs, h, hl => by
    match cs, hl with
    | a :: b :: r, hl =>
      rw [show 2 * (k + 1) = 2 * k + 1 + 1 by omega, List.take_succ_cons, List.take_succ_cons, pairs] at h
      rw [pairs]
      split at h
      · next hn => rw [if_pos hn]
      · next hn =>
        rw [if_neg hn]
        cases hr : pairs (r.take (2 * k)) with
        | none => rw [pairs_none k r hr (by simp at hl; omega)]
        | some q => rw [hr] at h; cases h
/-- An odd number of digits is none. -/
theorem pairs_odd : ∀ (cs : List Int), cs.length % 2 = 1 → pairs cs = none
  | [], h => by simp at h
  | [_], _ => rfl
  | a :: b :: r, h => by
    rw [pairs, pairs_odd r (by simp at h; omega)]
    split <;> rfl
/-- The bytes, when so many digits are read. -/
def fillH (cs : List Int) (n i : Nat) : List Int := (List.range n).map fun j => if 2 * j + 1 < i then 16 * valD (cs.getD (2 * j) 0) + valD (cs.getD (2 * j + 1) 0) else if 2 * j < i then valD (cs.getD (2 * j) 0) else 0
theorem fillH_length (cs : List Int) (n i : Nat) : (fillH cs n i).length = n := by simp [fillH]
theorem fillH_zero (cs : List Int) (n : Nat) : fillH cs n 0 = List.replicate n 0 := by
  refine List.ext_getElem (by simp [fillH]) fun j h1 h2 => ?_
  simp [fillH]
theorem fillH_get (cs : List Int) (n i : Nat) (h : i < 2 * n) : (fillH cs n i)[i / 2]?.getD 0 = if i % 2 = 0 then 0 else valD (cs.getD (i - 1) 0) := by
  have hj : i / 2 < n := by omega
  simp only [fillH, List.getElem?_map, List.getElem?_range hj, Option.map_some, Option.getD_some]
  rw [if_neg (by omega)]
  by_cases he : i % 2 = 0
  · rw [if_neg (by omega), if_pos he]
  · rw [if_pos (by omega), if_neg he, show 2 * (i / 2) = i - 1 by omega]
theorem fillH_next (cs : List Int) (n i : Nat) (h : i < 2 * n) : fillH cs n (i + 1) = (fillH cs n i).set (i / 2) (if i % 2 = 0 then valD (cs.getD i 0) else 16 * valD (cs.getD (i - 1) 0) + valD (cs.getD i 0)) := by
  refine List.ext_getElem (by simp [fillH]) fun j h1 h2 => ?_
  rw [List.getElem_set]
  by_cases hj : i / 2 = j
  · subst hj
    rw [if_pos rfl]
    simp only [fillH, List.getElem_map, List.getElem_range]
    by_cases he : i % 2 = 0
    · rw [if_neg (by omega), if_pos (by omega), if_pos he, show 2 * (i / 2) = i by omega]
    · rw [if_pos (by omega), if_neg he, show 2 * (i / 2) = i - 1 by omega, show i - 1 + 1 = i by omega]
  · rw [if_neg hj]
    simp only [fillH, List.getElem_map, List.getElem_range]
    by_cases h3 : 2 * j + 1 < i
    · rw [if_pos (by omega), if_pos h3]
    · rw [if_neg (by omega), if_neg h3]
      by_cases h4 : 2 * j < i
      · rw [if_pos (by omega), if_pos h4]
      · rw [if_neg (by omega), if_neg h4]
theorem pairs_full : ∀ (n : Nat) (cs : List Int), cs.length = 2 * n → (∀ j, j < 2 * n → 0 ≤ valD (cs.getD j 0)) → pairs cs = some (fillH cs n (2 * n))
  | 0, cs, h, _ => by
    obtain rfl : cs = [] := List.eq_nil_of_length_eq_zero (by omega)
    rfl
  | n + 1, cs, h, hv => by
    match cs, h with
    | a :: b :: r, h =>
      have ha := hv 0 (by omega)
      have hb := hv 1 (by omega)
      simp [List.getD] at ha hb
      have ih := pairs_full n r (by simp at h; omega) fun j hj => by
        have := hv (j + 2) (by omega)
        simpa [List.getD] using this
      rw [pairs, if_neg (by omega), ih]
      simp only [Option.some.injEq]
      refine List.ext_getElem (by simp [fillH]) fun j h1 h2 => ?_
      cases j with
      | zero => simp [fillH, List.getD]; omega
      | succ j =>
        simp only [fillH, List.length_map, List.length_range] at h2
        have hj : j < n := by omega
        simp only [List.getElem_cons_succ, fillH, List.getElem_map, List.getElem_range]
        rw [if_pos (by omega), if_pos (by omega)]
        rw [show 2 * (j + 1) = 2 * j + 1 + 1 by omega]
        simp [List.getD]
theorem pairs_bad : ∀ (cs : List Int) (j : Nat), j < cs.length → valD (cs.getD j 0) < 0 → pairs cs = none
  | [], j, h, _ => by simp at h
  | [_], _, _, _ => rfl
  | a :: b :: r, 0, _, h => by
    rw [pairs, if_pos (.inl (by simpa [List.getD] using h))]
  | a :: b :: r, 1, _, h => by
    rw [pairs, if_pos (.inr (by simpa [List.getD] using h))]
  | a :: b :: r, j + 2, hl, h => by
    rw [pairs, pairs_bad r j (by simp at hl; omega) (by simpa [List.getD] using h)]
    split <;> rfl
theorem fillH_octets {cs : List Int} {n i : Nat} (hv : ∀ j, j < i → 0 ≤ valD (cs.getD j 0)) : Octets (fillH cs n i) := by
  intro x hx
  obtain ⟨j, _, rfl⟩ := List.mem_map.1 hx
  have h1 := valD_bd (cs.getD (2 * j) 0)
  have h2 := valD_bd (cs.getD (2 * j + 1) 0)
  by_cases h3 : 2 * j + 1 < i
  · have h4 := hv (2 * j) (by omega)
    have h5 := hv (2 * j + 1) h3
    rw [if_pos h3]; omega
  · rw [if_neg h3]
    by_cases h6 : 2 * j < i
    · have h4 := hv (2 * j) h6
      rw [if_pos h6]; omega
    · rw [if_neg h6]; omega
/-- What a text is: of even length, and all digits: its bytes. -/
theorem unhex_full {cs : List Int} {n : Nat} (h1 : cs ≠ [46]) (h2 : cs.length = 2 * n) (h3 : 0 < n) (hv : ∀ j, j < 2 * n → 0 ≤ valD (cs.getD j 0)) : unB cs = true ∧ unL cs = fillH cs n (2 * n) := by
  have e : unhexL cs = some (fillH cs n (2 * n)) := by
    unfold unhexL
    rw [if_neg h1, if_neg (by intro h; rw [h] at h2; simp at h2; omega)]
    exact pairs_full n cs h2 hv
  unfold unB unL
  rw [e]
  exact ⟨rfl, rfl⟩
theorem unhex_none {cs : List Int} (h1 : cs ≠ [46]) (h : cs = [] ∨ cs.length % 2 = 1 ∨ ∃ j, j < cs.length ∧ valD (cs.getD j 0) < 0) : unB cs = false ∧ unL cs = [] := by
  have e : unhexL cs = none := by
    unfold unhexL
    rw [if_neg h1]
    by_cases h2 : cs = []
    · rw [if_pos h2]
    · rw [if_neg h2]
      rcases h with h | h | ⟨j, hj, h⟩
      · exact absurd h h2
      · exact pairs_odd cs h
      · exact pairs_bad cs j hj h
  unfold unB unL
  rw [e]
  exact ⟨rfl, rfl⟩
end Go.Proofs.Ytpdlibegjkbknaa.Tx
