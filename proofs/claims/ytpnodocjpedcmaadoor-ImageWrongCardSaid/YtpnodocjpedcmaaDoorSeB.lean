/-
  Layer 6, sector: maps of sectors and a device, in memory. Conditions: as each theorem names.
-/
import Derived.Test.YtpnodocjpedcmaaDoorRows
import Derived.Test.YtpnodocjpedcmaaDoorSeA
namespace Go.Proofs.YtpnodocjpedcmaaDoor.Sec
open Go.ChangeShapes Go.WideShapes Go.ChangeAt Go.RowKit Go.Proofs.YtpnodocjpedcmaaDoor.Kit Go.Maps

theorem len_ok {n : Nat} (h : n < 1000000000) : n < maxLen := by unfold maxLen; omega
theorem keyI : Keyed Tryd.prog 3 := int_keyed Tryd.underlying3
theorem key_of {k : Int} (h : -9223372036854775808 ≤ k ∧ k ≤ 9223372036854775807) : keyOf Tryd.prog 3 (.int .i64 k) = some (.int .i64 k) :=
  keyOf_int_mk Tryd.underlying3 (WalkArith.wf_i64 h)
theorem zeroW (w : World) : (zeroValue 22).run Tryd.prog w = .ok (.slice none 0 0) w := by kernel_rfl
theorem zeroK (w : World) : (zeroValue 103).run Tryd.prog w = .ok (.agg #[.slice none 0 0, .bool false]) w := by kernel_rfl
theorem RW_zero : RW (.slice none 0 0) = some (.lit (.bool false), []) := rfl
theorem RK_zero : RK (.agg #[.slice none 0 0, .bool false]) = some (.lit (.bool false), []) := rfl

/-- Block b is a map of these sectors, all of n bytes. -/
def MapAt (w : World) (I : Nat → Prop) (R : Value → Option (DataW Unit × List MemPlace)) (b n : Nat) (l : Sl) : Prop :=
  ∃ es, w.ownsMap Tryd.prog 3 R b l.length (.map es) ∧ Ties w I n es l
theorem MapAt.mono {w : World} {I J : Nat → Prop} {R : Value → Option (DataW Unit × List MemPlace)} {b n : Nat} {l : Sl} (h : MapAt w I R b n l) (hJ : ∀ g, g < w.heap.size → I g → J g) : MapAt w J R b n l := by
  obtain ⟨es, h1, h2⟩ := h
  exact ⟨es, h1, h2.mono hJ⟩
theorem MapAt.lt {w : World} {I : Nat → Prop} {R : Value → Option (DataW Unit × List MemPlace)} {b n : Nat} {l : Sl} (h : MapAt w I R b n l) : b < w.heap.size := by
  obtain ⟨es, h1, _⟩ := h
  exact h1.lt
theorem MapAt.no_row {w : World} {I : Nat → Prop} {R : Value → Option (DataW Unit × List MemPlace)} {b n : Nat} {l : Sl} (h : MapAt w I R b n l) (cs : Array Value) (t : TypeId) (f : Nat × Nat) : w.heap[b]? ≠ some (.cells cs t f) := by
  obtain ⟨es, ⟨e1, c1, h1, _⟩, _⟩ := h
  rw [h1]
  intro e
  injection e with e
  cases e
theorem ownsMap_tight {w : World} {R : Value → Option (DataW Unit × List MemPlace)} {b n : Nat} {es : List (Lit × DataW Unit)} (h : w.ownsMap Tryd.prog 3 R b n (.map es)) : w.ownsMap Tryd.prog 3 R b es.length (.map es) := by
  obtain ⟨e1, c1, h1, F, hs, hD⟩ := h
  refine ⟨e1, c1, h1, F, ?_, hD⟩
  injection hD with hD
  rw [hD, length_sorted]
  simp
theorem MapAt.of {w : World} {I : Nat → Prop} {R : Value → Option (DataW Unit × List MemPlace)} {b n N : Nat} {es : List (Lit × DataW Unit)} {l : Sl} (h : w.ownsMap Tryd.prog 3 R b N (.map es)) (t : Ties w I n es l) : MapAt w I R b n l := by
  refine ⟨es, ?_, t⟩
  have := ownsMap_tight h
  rw [t.length] at this
  exact this
theorem MapAt.made (w : World) (I : Nat → Prop) (R : Value → Option (DataW Unit × List MemPlace)) (n : Nat) : MapAt (w.alloc (.map #[] 0)) I R w.heap.size n [] :=
  ⟨[], World.ownsMap_made _ _ _ _, .nil⟩
/-- A map stays while other blocks, none of them a row of bytes, turn. -/
theorem MapAt.out {S : Nat → Prop} {w w' : World} {I : Nat → Prop} {R : Value → Option (DataW Unit × List MemPlace)} {b n : Nat} {l : Sl} (h : MapAt w I R b n l) (t : TurnsIn S w w') (hb : ¬ S b) (hS : ∀ b, S b → I b → ∀ cs f, w.heap[b]? ≠ some (.cells cs 5 f)) : MapAt w' I R b n l := by
  obtain ⟨es, ⟨e1, c1, h1, r⟩, h2⟩ := h
  exact ⟨es, ⟨e1, c1, (t.block b (Array.getElem?_eq_some_iff.1 h1).1 hb).trans h1, r⟩, h2.out t hS⟩

/-- The block of a row of bytes is no map. -/
theorem row_not_map {w : World} {I : Nat → Prop} {R : Value → Option (DataW Unit × List MemPlace)} {b n : Nat} {l : Sl} (h : MapAt w I R b n l) : ∀ x, x = b → ∀ cs f, w.heap[x]? ≠ some (.cells cs 5 f) := by
  rintro x rfl cs f
  exact h.no_row cs _ f

section
variable {w : World} {I : Nat → Prop} {b n : Nat} {l : Sl}

theorem MapAt.look_yes (h : MapAt w I RW b n l) (k : Int) (hk : -9223372036854775808 ≤ k ∧ k ≤ 9223372036854775807) (xs : List Int) (hg : getS l k = some (some xs)) (c : Bool) :
    ∃ g m, (Instr.lookup 89 (.map (some b)) (.int .i64 k) c).run Tryd.prog w = .ok (if c then .tuple #[.slice (some ⟨g, 0, none⟩) n m, .bool true] else .slice (some ⟨g, 0, none⟩) n m) w ∧ xs.length = n ∧ Octets xs ∧ I g ∧ Own w 0 5 .u8 (.slice (some ⟨g, 0, none⟩) n m) xs := by
  obtain ⟨es, h1, h2⟩ := h
  obtain ⟨a1, d, a2, _, a3⟩ := h2.get_yes k _ hg
  obtain ⟨g, m, e1, e2, e3, eI, e4⟩ := a3
  obtain ⟨v, ps, hr, hv⟩ := h1.look_ok keyI Tryd.underlying89 (zeroW w) RW_zero (key_of hk)
  obtain ⟨v', ps', hr', hv'⟩ := h1.lookup keyI Tryd.underlying89 (zeroW w) RW_zero (key_of hk)
  rw [a2] at hv hv'
  change d = codeS g n m at e1
  subst e1
  obtain rfl := RW_some hv
  obtain rfl := RW_some hv'
  refine ⟨g, m, ?_, e2, e3, eI, e4⟩
  cases c with
  | true => rw [hr, a1]; rfl
  | false => rw [hr']; rfl
theorem MapAt.look_no (h : MapAt w I RW b n l) (k : Int) (hk : -9223372036854775808 ≤ k ∧ k ≤ 9223372036854775807) (hg : getS l k = none) :
    (Instr.lookup 89 (.map (some b)) (.int .i64 k) true).run Tryd.prog w = .ok (.tuple #[.slice none 0 0, .bool false]) w := by
  obtain ⟨es, h1, h2⟩ := h
  obtain ⟨a1, a2⟩ := h2.get_no k hg
  obtain ⟨v, ps, hr, hv⟩ := h1.look_ok keyI Tryd.underlying89 (zeroW w) RW_zero (key_of hk)
  rw [a2] at hv
  obtain rfl := RW_none hv
  rw [hr, a1]
theorem MapAt.kept_yes (h : MapAt w I RK b n l) (k : Int) (hk : -9223372036854775808 ≤ k ∧ k ≤ 9223372036854775807) (xs : List Int) (hg : getS l k = some (some xs)) :
    ∃ g m, (Instr.lookup 88 (.map (some b)) (.int .i64 k) true).run Tryd.prog w = .ok (.tuple #[.agg #[.slice (some ⟨g, 0, none⟩) n m, .bool false], .bool true]) w ∧ xs.length = n ∧ Octets xs ∧ I g ∧ Own w 0 5 .u8 (.slice (some ⟨g, 0, none⟩) n m) xs := by
  obtain ⟨es, h1, h2⟩ := h
  obtain ⟨a1, d, a2, _, a3⟩ := h2.get_yes k _ hg
  obtain ⟨g, m, e1, e2, e3, eI, e4⟩ := a3
  obtain ⟨v, ps, hr, hv⟩ := h1.look_ok keyI Tryd.underlying88 (zeroK w) RK_zero (key_of hk)
  rw [a2] at hv
  change d = codeS g n m at e1
  subst e1
  obtain rfl := RK_some hv
  exact ⟨g, m, by rw [hr, a1], e2, e3, eI, e4⟩
theorem MapAt.kept_torn (h : MapAt w I RK b n l) (k : Int) (hk : -9223372036854775808 ≤ k ∧ k ≤ 9223372036854775807) (hg : getS l k = some none) :
    (Instr.lookup 88 (.map (some b)) (.int .i64 k) true).run Tryd.prog w = .ok (.tuple #[.agg #[.slice none 0 0, .bool true], .bool true]) w := by
  obtain ⟨es, h1, h2⟩ := h
  obtain ⟨a1, d, a2, _, a3⟩ := h2.get_yes k _ hg
  change d = .lit (.bool true) at a3
  obtain ⟨v, ps, hr, hv⟩ := h1.look_ok keyI Tryd.underlying88 (zeroK w) RK_zero (key_of hk)
  rw [a2, a3] at hv
  obtain rfl := RK_lit hv
  rw [hr, a1]
theorem MapAt.kept_no (h : MapAt w I RK b n l) (k : Int) (hk : -9223372036854775808 ≤ k ∧ k ≤ 9223372036854775807) (hg : getS l k = none) :
    (Instr.lookup 88 (.map (some b)) (.int .i64 k) true).run Tryd.prog w = .ok (.tuple #[.agg #[.slice none 0 0, .bool false], .bool false]) w := by
  obtain ⟨es, h1, h2⟩ := h
  obtain ⟨a1, a2⟩ := h2.get_no k hg
  obtain ⟨v, ps, hr, hv⟩ := h1.look_ok keyI Tryd.underlying88 (zeroK w) RK_zero (key_of hk)
  rw [a2] at hv
  obtain rfl := RK_lit hv
  rw [hr, a1]

/-- A value that an entry may hold. -/
def GoodV (w : World) (I : Nat → Prop) (R : Value → Option (DataW Unit × List MemPlace)) (n : Nat) (v : Value) (o : Option (List Int)) : Prop := ∃ d, R v = some (d, []) ∧ ∀ k, Tie w I n (.int .i64 k, d) (k, o)
theorem GoodV.waits {w : World} {I : Nat → Prop} {n g m : Nat} {xs : List Int} (hI : I g) (hl : xs.length = n) (ho : Octets xs) (h : Own w 0 5 .u8 (.slice (some ⟨g, 0, none⟩) n m) xs) : GoodV w I RW n (.slice (some ⟨g, 0, none⟩) n m) (some xs) :=
  ⟨codeS g n m, rfl, fun _ => ⟨rfl, g, m, rfl, hl, ho, hI, h⟩⟩
theorem GoodV.kept {w : World} {I : Nat → Prop} {n g m : Nat} {xs : List Int} (hI : I g) (hl : xs.length = n) (ho : Octets xs) (h : Own w 0 5 .u8 (.slice (some ⟨g, 0, none⟩) n m) xs) : GoodV w I RK n (.agg #[.slice (some ⟨g, 0, none⟩) n m, .bool false]) (some xs) :=
  ⟨codeS g n m, rfl, fun _ => ⟨rfl, g, m, rfl, hl, ho, hI, h⟩⟩
theorem GoodV.torn {w : World} {I : Nat → Prop} {n : Nat} : GoodV w I RK n (.agg #[.slice none 0 0, .bool true]) none :=
  ⟨.lit (.bool true), rfl, fun _ => ⟨rfl, rfl⟩⟩

theorem MapAt.store {R : Value → Option (DataW Unit × List MemPlace)} {t e : TypeId} (ht : Tryd.prog.underlying t = some (.map 3 e)) (h : MapAt w I R b n l) (hu : Up l) (hm : l.length < 1000000000) (k : Int) (hk : -9223372036854775808 ≤ k ∧ k ≤ 9223372036854775807) (v : Value) (o : Option (List Int)) (hv : GoodV w I R n v o) :
    ∃ w', (Instr.mapUpdate t (.map (some b)) (.int .i64 k) v).run Tryd.prog w = .ok () w' ∧ MapAt w' I R b n (putS l k o) ∧ w.mapTurned w' b := by
  have h' := h
  obtain ⟨es, h1, h2⟩ := h
  obtain ⟨d, hd, htie⟩ := hv
  obtain ⟨w', hr, ho, ht'⟩ := h1.store keyI ht (len_ok hm) (key_of hk) hd
  have tn : TurnsIn (fun x => x = b) w w' := TurnsIn.ofGrown (row := some b) ht'.grown fun x hx => (Option.some.inj hx).symm
  refine ⟨w', hr, MapAt.of ho ?_, ht'⟩
  exact (h2.put hu k d o (htie k)).out tn (fun x hx _ cs f => row_not_map h' x hx cs f)
end
end Go.Proofs.YtpnodocjpedcmaaDoor.Sec
