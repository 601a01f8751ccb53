/-
  OctetNumbers: the walk: any number of any width is put as the document says, behind bytes that stay as they are, and got back.
-/
import Derived.Test.YtcppceonflkihaaDig
import Derived.Deep.RegionWith
import Derived.Deep.DeepCutAuto
namespace Go.Proofs.Ytcppceonflkihaa.OctetNumbers
open Go.ChangeShapes Go.WideShapes Go.ChangeAt Go.RowKit Go.Proofs.Ytcppceonflkihaa.Kit Go.Proofs.Ytcppceonflkihaa.Oct

theorem fin {w w1 w3 w5 w6 : World} (h1 : Below w.heap.size w w1) (h3 : Below w1.heap.size w1 w3) (h5 : Below w3.heap.size w3 w5) (h6 : Below w5.heap.size w5 w6) : Below w.heap.size w w6 :=
  h1.trans ((h3.trans ((h5.trans (h6.mono h5.size)).mono h3.size)).mono h1.size)

set_option maxHeartbeats 6400000 in
theorem walk (A : Option Addr) (xs : List Int) (c : Nat) (n x : Int) (w : World) (hl : xs.length ≤ c) (hx : c ≤ maxLen) (ho : Octets xs) (hr : Holds w w.heap.size .u8 A xs)
    (wn : (Lit.int .i64 n).wf = true) (wx : (Lit.int .u64 x).wf = true) :
    Calls Try.prog 3 #[.slice A xs.length c, .int .i64 n, .int .u64 x] w fun e w' => e = .returned (.bool true) ∧ Below w.heap.size w w' := by
  unfold maxLen at hx
  have hxb := bounds_u64 wx
  have hnb := bounds_i64 wn
  clear wx wn
  by_cases h5 : xs.length ≤ 500
  · have hn : xs.length ≤ 1000000 := by omega
    have own0 := Own.empty (B := w.heap.size) w 5 .u8 (Nat.le_refl _)
    have hb0 : Below w.heap.size w (w.alloc (.cells #[] 5)) := (Below.refl _ _).alloc (Nat.le_refl _) _
    obtain ⟨zs, hz⟩ : ∃ zs, xs ++ be (clamp n) x = zs := ⟨_, rfl⟩
    have hlz : xs.length ≤ zs.length ∧ zs.length ≤ xs.length + 8 := by subst hz; simp [be_length]; have := clamp_bd n; omega
    have Hz := Lib.hid hz
    clear hz
    go_enter Try.func3, Try.ntmps3
    go_wp2_with (first
      | (have _t := own0; refine wpList_append_ints _ rfl (.tmp 18) (.tmp 19) 22 rfl elem8 own0 rfl rfl (hr.below hb0) (by simp; omega) (by simp) ?_; clear _t
         intro v1 w1 own1 hg1 hb1 _
         rw [List.nil_append] at own1
         have hb2 := hb0.trans hb1
         clear own0 hg1 hb0 hb1
         obtain ⟨A1, c1, rfl, hl1, hm1, hr1⟩ := own1.opened)
      | (go_at_call 9; refine (put_as _ _ _ _ _ _ _ Hz.out hn hr1 (by omega)).mono ?_
         rintro e w3 ⟨A3, c3, rfl, hl3, hm3, hr3, hb3⟩))
    have hcv : ∀ W', Below w3.heap.size w3 W' → (convert 22 9 (.slice A3 zs.length c3)).run Try.prog W' = .ok (.string (strOfNums zs)) W' ∧
        (convert 22 9 (.slice A1 xs.length c1)).run Try.prog W' = .ok (.string (strOfNums xs)) W' ∧ (convert 22 9 (.slice A xs.length c)).run Try.prog W' = .ok (.string (strOfNums xs)) W' :=
      fun W' hb' => ⟨conv_any _ _ _ _ _ (hr3.below hb'), conv_any _ _ _ _ _ (((hr1.below hb3).more hb3.size).below hb'), conv_any _ _ _ _ _ (((hr.below (hb2.trans (hb3.mono hb2.size))).more (hb2.trans (hb3.mono hb2.size)).size).below hb')⟩
    have hrw : ∀ W', Below w3.heap.size w3 W' → Holds W' W'.heap.size .u8 A xs := fun W' hb' => (((hr.below (hb2.trans (hb3.mono hb2.size))).more (hb2.trans (hb3.mono hb2.size)).size).below hb').more hb'.size
    have h30 : Below w3.heap.size w3 w3.drew := (Below.refl w3.heap.size w3).drew
    have Hcv := Lib.hid hcv
    have Hrw := Lib.hid hrw
    have f3 := hcv w3.drew h30
    clear hcv hrw own1
    obtain ⟨f31, f32, f33⟩ := f3
    go_cut [39] (fun s39 wx => s39 = .bool false ∧ Below w3.heap.size w3 wx)
    case first =>
      go_region_with (go_at_call 10; refine (rput_as _ _ _ _ _ _ _ Hz.out hn (Hrw.out _ h30) (by omega)).mono ?_; rintro e w4 ⟨A4, c4, rfl, hl4, hm4, hr4, hb4⟩; have h50 : Below w3.heap.size w3 w4 := h30.trans (hb4.mono h30.size); obtain ⟨f51, f52, f53⟩ := Hcv.out _ h50; have f4 := conv_any w4 A4 zs c4 _ hr4)
      all_goals (go_wp2_with fail; go_meet; exact ⟨rfl, h50⟩)
    case rest =>
      obtain ⟨rfl, hb5⟩ := hcut
      by_cases hm : n < 1 ∨ 8 < n
      · have H := Lib.hid hm
        have h8 : (n != 8) = true := by simp; omega
        clear hm
        go_wp2_with (first
          | (go_at_call 11; refine (get_bad _ _ _ _ _ _ H.out).mono ?_; rintro e w' ⟨rfl, rfl⟩)
          | (go_at_call 12; refine (rget_bad _ _ _ _ _ _ H.out).mono ?_; rintro e w' ⟨rfl, rfl⟩)
          | (go_at_call 8; refine (awake_any _).mono ?_; rintro e w6 ⟨rfl, hb6⟩))
        go_ret
        exact ⟨rfl, fin hb2 hb3 hb5 hb6⟩
      · obtain ⟨k, rfl⟩ := Int.eq_ofNat_of_zero_le (show 0 ≤ n by omega)
        have hz := Hz.out
        have hck : clamp (k : Int) = k := by unfold clamp; rw [if_neg (by omega), if_neg (by omega)]; omega
        rw [hck] at hz
        have hzl : zs.length = xs.length + k := by rw [← hz]; simp [be_length]
        have hoz : Octets zs := by rw [← hz]; intro q hq; rcases List.mem_append.1 hq with h | h; exact ho q h; exact be_octets k x q h
        have hv : val ((zs.drop xs.length).take k) = val (be k x) := by
          rw [← hz, List.drop_left, List.take_of_length_le (by rw [be_length]; exact Nat.le_refl _)]
        have h58 : k = 8 → val (be k x) = x := fun h => by subst h; exact val_be8 x (by omega)
        have g1 := fun W (h : Holds W w3.heap.size .u8 A3 zs) => get_any A3 zs c3 xs.length k w3.heap.size W (by omega) hl3 (by omega) (by omega) hoz h
        have g2 := fun W (h : Holds W w3.heap.size .u8 A3 zs) => rget_any A3 zs c3 xs.length k w3.heap.size W (by omega) hl3 (by omega) (by omega) hoz h
        rw [hv] at g1 g2
        have hr5 := hr3.below hb5
        have G1 := Lib.hid g1
        have G2 := Lib.hid g2
        clear g1 g2 hv hzl hck hz
        generalize val (be k x) = V at *
        by_cases h8 : k = 8
        · obtain rfl := h58 h8
          subst h8
          clear h58
          go_wp2_with (first
            | (go_at_call 11; refine (G1.out _ hr5).mono ?_; rintro e w' ⟨rfl, rfl⟩)
            | (go_at_call 12; refine (G2.out _ hr5).mono ?_; rintro e w' ⟨rfl, rfl⟩)
            | (go_at_call 8; refine (awake_any _).mono ?_; rintro e w6 ⟨rfl, hb6⟩))
          go_ret
          exact ⟨rfl, fin hb2 hb3 hb5 hb6⟩
        · have h9 : ((k : Int) != 8) = true := by simp; omega
          clear h58
          go_wp2_with (first
            | (go_at_call 11; refine (G1.out _ hr5).mono ?_; rintro e w' ⟨rfl, rfl⟩)
            | (go_at_call 12; refine (G2.out _ hr5).mono ?_; rintro e w' ⟨rfl, rfl⟩)
            | (go_at_call 8; refine (awake_any _).mono ?_; rintro e w6 ⟨rfl, hb6⟩))
          go_ret
          exact ⟨rfl, fin hb2 hb3 hb5 hb6⟩
  · go_enter Try.func3, Try.ntmps3
    go_wp2_with (go_at_call 8; refine (awake_any _).mono ?_; rintro e w1 ⟨rfl, hb1⟩)
    go_ret
    exact ⟨rfl, hb1⟩
end Go.Proofs.Ytcppceonflkihaa.OctetNumbers
