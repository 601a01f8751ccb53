/-
  Layer 6, sector: a map's keys, sorted: contract. Conditions: as each theorem names.
-/
import Derived.Test.YtpnodocjpedcmaaDoorSkA
import Derived.Test.YtpnodocjpedcmaaDoorSeH
import Derived.Test.YtpnodocjpedcmaaDoorSeB
namespace Go.Proofs.YtpnodocjpedcmaaDoor.Sk
open Go.RowKit Go.Maps Go.Sort Go.Shelf Go.Proofs Go.Proofs.YtpnodocjpedcmaaDoor.Kit Go.Proofs.YtpnodocjpedcmaaDoor.Sec Go.ChangeMaps

theorem sortsA (m : Nat) : AnyZI.SortsIn Tryd.prog sortedA_ren Fence.wide m :=
  ⟨fun blk off cap ss W hH hblk hsz => callsIn_wide.2 (AnyM.slices_Sort_int sortA blk off cap ss W hH hblk hsz),
   fun p cap W => callsIn_wide.2 (AnyM.slices_Sort_int_none sortA p cap W)⟩

theorem keys_any (mb : Option Nat) (W : World) : Calls Tryd.prog 47 #[.map mb] W fun e w' => e = .returned (.func (.func 75) #[] #[.pointer (some ⟨W.heap.size, 0, none⟩)]) ∧ w' = W.alloc (.cells #[.map mb] 89) :=
  (callsIn_wide (n := 5)).1 (AnyZI.keys_in keysA Fence.wide 5 trivial rfl mb W)

theorem sorted_any {H : Type} (b nn : Nat) (D0 : DataW H) (R : Value → Option (DataW H × List MemPlace)) (w : World) (hown : w.ownsMap Tryd.prog 3 R b nn D0) (hmax : Maps.size D0 ≤ maxLen) (hbytes : Maps.size D0 * 8 ≤ 140737488355328) :
    Calls Tryd.prog 46 #[.func (.func 75) #[] #[.pointer (some ⟨w.heap.size, 0, none⟩)]] (w.alloc (.cells #[.map (some b)] 89)) fun e w' => ∃ (v : Value) (ss : List Int), e = .returned v ∧ ss.Perm (intKeys D0) ∧
      w'.ownsRow (w.alloc (.cells #[.map (some b)] 89)).heap.size 3 1 v ss.length ((ss.mergeSort (fun x y => decide (x ≤ y))).map encZ) ∧ (v = .slice none 0 0 ↔ ss = []) ∧ Below (w.alloc (.cells #[.map (some b)] 89)).heap.size (w.alloc (.cells #[.map (some b)] 89)) w' := by
  refine (callsIn_wide (n := 5)).1 ?_
  have hbl := hown.lt
  have hseq : SeqGives Fence.wide 2 Tryd.prog 75 #[.pointer (some ⟨w.heap.size, 0, none⟩)] encZ (fun ss => ss.Perm (intKeys D0)) (Maps.size D0) (w.alloc (.cells #[.map (some b)] 89)) :=
    AnyZI.keys_gives (ρ := keysA_ren) { keysA with } Fence.wide _ trivial rfl (by omega) w.heap.size b nn D0 _ (by simp) (by simp) (by
      obtain ⟨es, clock, hb, Ft, hs, hD⟩ := hown
      exact ⟨es, clock, (Below.heap_alloc _ _ b hbl).trans hb, Ft, hs, hD⟩)
  exact (AnyZI.sorted_in sortedA Fence.wide 5 trivial trivial trivial trivial rfl (by omega) (sortsA _) (enters_of Tryd.func74 (by kernel_rfl) rfl) 75 #[.pointer (some ⟨w.heap.size, 0, none⟩)] trivial (enters_of Tryd.func75 (by kernel_rfl) rfl) _ _ hmax hbytes _ hseq).mono fun e w' h => h

/-- The sectors' numbers, in their order. -/
theorem keys_map {w : World} {I : Nat → Prop} {n : Nat} {es : List (Lit × DataW Unit)} {l : Sl} (h : Ties w I n es l) : intKeys (DataW.map es) = l.map (·.1) := by
  induction h with
  | nil => rfl
  | @cons p q es l hp _ ih =>
    have e : intKeys (DataW.map (p :: es)) = intKeys (DataW.map [p]) ++ intKeys (DataW.map es) := rfl
    rw [e, ih]
    obtain ⟨p1, p2⟩ := p
    obtain ⟨rfl, _⟩ := hp
    rfl
theorem sorted_keys {l : Sl} (hu : Up l) {ss : List Int} (h : ss.Perm (l.map (·.1))) : ss.mergeSort (fun x y => decide (x ≤ y)) = l.map (·.1) := by
  have e := mergeSort_of_perm_i h
  rw [e]
  apply List.mergeSort_of_pairwise
  have := hu
  unfold Up at this
  rw [List.pairwise_map]
  exact this.imp (fun h => by simp; omega)

/-- slices.Sorted(maps.Keys(m)), its second step. -/
def GivesK (l : Sl) (w : World) (e : Ending) (w' : World) : Prop := ∃ v, e = .returned v ∧ Own w' w.heap.size 3 .i64 v (l.map (·.1)) ∧ Below w.heap.size w w'
theorem sorted_map {w : World} {I : Nat → Prop} {R : Value → Option (DataW Unit × List MemPlace)} {b n : Nat} {l : Sl} (h : MapAt w I R b n l) (hu : Up l) (hl : l.length < 1000000000) :
    Calls Tryd.prog 46 #[.func (.func 75) #[] #[.pointer (some ⟨w.heap.size, 0, none⟩)]] (w.alloc (.cells #[.map (some b)] 89)) (GivesK l w) := by
  obtain ⟨es, h1, h2⟩ := h
  have hsz : Maps.size (DataW.map es) = l.length := h2.length
  have h8 : Maps.size (DataW.map es) * 8 ≤ 140737488355328 := by rw [hsz]; omega
  have hm : Maps.size (DataW.map es) ≤ maxLen := by rw [hsz]; exact Nat.le_of_lt (len_ok hl)
  refine (sorted_any b l.length (DataW.map es) R w h1 hm h8).mono fun e w' ⟨v, ss, he, hp, hown, _, hb⟩ => ⟨v, he, ?_, ?_⟩
  · rw [keys_map h2] at hp
    have hlen := hp.length_eq
    rw [sorted_keys hu hp] at hown
    rw [hlen] at hown
    exact Own.mono (B := (w.alloc (.cells #[.map (some b)] 89)).heap.size) hown (by simp)
  · exact ((Below.refl _ w).alloc (Nat.le_refl _) _).trans (hb.mono (by simp))
end Go.Proofs.YtpnodocjpedcmaaDoor.Sk
