/- At every tree and every list the call of laws.FnExactActAll returns true. -/
import Derived.Test.YtnolbfijcnldjaaGreatDoorU36
import Derived.Deep.RegionWith
import Derived.RowKitTokens
namespace Go.Proofs.YtnolbfijcnldjaaGreatDoor
open Go.RowKit

set_option maxHeartbeats 16000000 in
set_option maxRecDepth 20000 in
theorem walkActAll (a : Nat → Addr) (U0 : Nat) (ta la : Option Addr) (tn tc m lc : Nat) (os : List LObj) (ops : List LOp) (w : World) (hU0 : U0 ≤ w.heap.size) (HS : Sents w U0 a) (H : ObjsAt w 0 w.heap.size ta tn os) (H2 : OpsAt w 0 w.heap.size la m ops) :
    Calls Tryz.prog 16 #[.agg #[.slice ta tn tc], .slice la m lc] w fun e w' => e = .returned (.bool true) ∧ Below w.heap.size w w' := by
  have hA : AQ w (w.alloc (Obj.cells #[.slice ta tn tc] 67)) ta tn tc := ⟨(Below.refl _ _).alloc (Nat.le_refl _) _, by simp [go_sem], by simp⟩
  have HTN : Hid (tn = os.length) := H.len
  go_enter Tryz.func16, Tryz.ntmps16
  go_wp2_with fail
  refine (szTree_any _ _ _ os 0 w.heap.size _ _ (by omega) (by omega) hA.below.size (H.below hA.below (Nat.le_refl _))).mono ?_
  rintro x w1 ⟨⟨r1, rfl, hr⟩, hb1⟩
  have HR : Hid (r1 = -1 ∨ 0 ≤ r1 ∧ r1 = 1048576 - tn - totT os) := hr
  have h1 := hA.next hb1
  clear hr hb1 hA
  have e8 := h1.t
  clear e8
  by_cases hneg : r1 < 0
  · go_wp2_with fail
    go_ret
    exact ⟨rfl, h1.below⟩
  go_wp2_with fail
  refine (szOpS_any la m lc ops 0 w.heap.size r1 _ (by omega) (by have := HR.out; omega) h1.below.size (H2.below h1.below (Nat.le_refl _))).mono ?_
  rintro x w2 ⟨⟨r2, rfl, hr2⟩, hb2⟩
  have h2 := h1.next hb2
  have HR2 : Hid (r2 = -1 ∨ 0 ≤ r2 ∧ r2 = r1 - m - totOps ops) := hr2
  clear hr2 hb2 h1
  by_cases hneg2 : r2 < 0
  · go_wp2_with fail
    go_ret
    exact ⟨rfl, h2.below⟩
  have htn : tn ≤ 1048576 := by have := HR.out; omega
  have htot : tn + totT os ≤ 1048576 := by have := HR.out; omega
  have hm : m ≤ 1048576 := by have := HR.out; have := HR2.out; omega
  have hS1 : Sizes os 1048576 := sizes_of (by omega)
  have HTOT : Hid (tn + totT os ≤ 1048576) := htot
  have hSP := fun b c b2 L V L2 V2 w hV H hV2 H2 => specActAll (some ⟨b, 0, none⟩) (some ⟨b2, 0, none⟩) tn c m m os ops L V L2 V2 w hS1 hV H hV2 H2
  have hIM := fun b c b2 L V L2 V2 w hU HS hV H hV2 H2 => implActAll a U0 (some ⟨b, 0, none⟩) (some ⟨b2, 0, none⟩) tn c m m os ops L V L2 V2 w hU HS hS1 hV H hV2 H2
  obtain ⟨r, hr⟩ : ∃ r, r = allR os ops := ⟨_, rfl⟩
  rw [← hr] at hSP hIM
  have HRS : Hid (Slim r.1.length r.1) := by show Slim _ _; rw [hr]; exact allR_slim os ops
  clear HR HR2 htot hr hneg
  have e9 := h2.t
  go_wp2_with fail
  refine (toTree_any _ _ _ os 0 w.heap.size _ htn hS1 h2.below.size (H.below h2.below (Nat.le_refl _))).mono ?_
  rintro x W1 ⟨⟨b1, rfl, ho1⟩, hb1⟩
  have h3 := h2.next hb1
  clear h2 hneg2 e9
  go_wp2_with fail
  refine (toOpS_any la m lc ops 0 w.heap.size _ hm h3.below.size (H2.below h3.below (Nat.le_refl _))).mono ?_
  rintro x W2 ⟨⟨b2, rfl, ho2⟩, hb2⟩
  have h4 := h3.next hb2
  have hz1 := hb1.size
  have hz2 := hb2.size
  clear h3
  go_wp2_with fail
  refine (hSP b1 tn b2 _ _ _ _ _ hz2 (ho1.below hb2 (Nat.le_refl _)) (Nat.le_refl _) ho2).mono ?_
  rintro x W3 hE
  obtain ⟨x6, c6, rfl, ho3, hb3⟩ := hE.objs
  have h5 := h4.next hb3
  have hal : Below W3.heap.size W3 (W3.alloc (.cells #[.slice x6 r.1.length c6] 25)) := (Below.refl _ _).alloc (Nat.le_refl _) _
  have HA6 : Hid (AQ w (W3.alloc (.cells #[.slice x6 r.1.length c6] 25)) ta tn tc) := h5.next hal
  have HT6 : Hid (TB (W3.alloc (.cells #[.slice x6 r.1.length c6] 25)) (W3.alloc (.cells #[.slice x6 r.1.length c6] 25)).heap.size W3.heap.size x6 c6 r.1) :=
    ⟨by simp [go_sem], (ho3.below hal (Nat.le_refl _)).wide (Nat.zero_le _) (by simp), by simp, Nat.le_refl _⟩
  have e0 := HA6.out.t
  clear h4 h5 hE ho1 ho2 ho3 hb1 hb2 hb3 hz1 hz2 hSP hal
  go_wp2_with fail
  generalize hW6 : W3.alloc (.cells #[.slice x6 r.1.length c6] 25) = W6 at *
  generalize hg6 : W3.heap.size = g6 at *
  clear hW6 hg6 e0
  refine (toTree_u _ _ _ os 0 w.heap.size _ htn hS1 HA6.out.below.size (H.below HA6.out.below (Nat.le_refl _))).mono ?_
  rintro x w7 ⟨⟨b7, rfl, ho7⟩, hb7, hu7⟩
  have hal : Below w7.heap.size w7 (w7.alloc (.cells #[.slice (some ⟨b7, 0, none⟩) tn tn] 25)) := (Below.refl _ _).alloc (Nat.le_refl _) _
  have HA8 : Hid (AQ w (w7.alloc (.cells #[.slice (some ⟨b7, 0, none⟩) tn tn] 25)) ta tn tc) := (HA6.out.next hb7).next hal
  have HT8 : Hid (TB (w7.alloc (.cells #[.slice (some ⟨b7, 0, none⟩) tn tn] 25)) W6.heap.size g6 x6 c6 r.1) := (HT6.out.next hb7).next hal
  have HX8 : Hid (XB (w7.alloc (.cells #[.slice (some ⟨b7, 0, none⟩) tn tn] 25)) W6.heap.size w7.heap.size b7 tn os) :=
    ⟨by simp [go_sem], (ho7.typed (Nat.le_refl _) hu7).under hal, ho7.below hal (Nat.le_refl _), by simp⟩
  have hz7 := hb7.size
  have hs6 := HA6.out.sz
  have hs8 : w7.heap.size < (w7.alloc (.cells #[.slice (some ⟨b7, 0, none⟩) tn tn] 25)).heap.size := by simp
  clear HA6 HT6 ho7 hb7 hu7 hal
  go_wp2_with fail
  generalize hW8 : w7.alloc (.cells #[.slice (some ⟨b7, 0, none⟩) tn tn] 25) = W8 at *
  generalize hU8 : w7.heap.size = U8 at *
  generalize hL8 : W6.heap.size = L8 at *
  clear hW8 hU8 hL8
  refine (toOpS_row la m lc ops 0 w.heap.size W8 hm HA8.out.below.size (H2.below HA8.out.below (Nat.le_refl _))).mono ?_
  rintro x W9 ⟨⟨lb, f9, rfl, l1, l2, l3, l4, l5⟩, hb9⟩
  have hz9 := hb9.size
  have HC : Hid (CE w W9 ta tn tc L8 g6 x6 c6 r.1 L8 U8 b7 os W8.heap.size W9.heap.size lb m f9 ops) :=
    ⟨HA8.out.next hb9, HT8.out.next hb9, HX8.out.under hb9 HX8.out.lt, ⟨l1, l2, Nat.le_refl _, l3, l4, l5⟩, hs6, Nat.le_refl _, hz7, hs8⟩
  obtain ⟨lo9, hlo9⟩ : ∃ lo9, W8.heap.size = lo9 := ⟨_, rfl⟩
  obtain ⟨up9, hup9⟩ : ∃ up9, W9.heap.size = up9 := ⟨_, rfl⟩
  rw [hlo9, hup9] at HC
  have hle9 : up9 ≤ W9.heap.size := Nat.le_of_eq hup9.symm
  clear hlo9 hup9 HA8 HT8 HX8 l1 l2 l3 l4 l5 hb9 hz7 hs6 hs8 hz9
  have y0 := HC.out.xb.box
  go_wp2_with fail
  refine (hIM b7 tn lb L8 U8 lo9 up9 _ (Nat.le_trans hU0 HC.out.ab.below.size) (HS.below HC.out.ab.below hU0) (Nat.le_of_lt HC.out.xb.lt) HC.out.xb.obj hle9 HC.out.rb.ops).mono ?_
  rintro x W10 hE
  obtain ⟨x9, c9, vs9, rfl, ho9, hb10⟩ := hE.ans
  have hal : Below W10.heap.size W10 (W10.alloc (.cells #[.slice x9 r.1.length c9] 25)) := (Below.refl _ _).alloc (Nat.le_refl _) _
  have HC9 : Hid (CE w (W10.alloc (.cells #[.slice x9 r.1.length c9] 25)) ta tn tc L8 g6 x6 c6 r.1 L8 U8 b7 os lo9 up9 lb m f9 ops) := (HC.out.next hb10).next hal
  have HG9 : Hid (GB (W10.alloc (.cells #[.slice x9 r.1.length c9] 25)) W9.heap.size W10.heap.size x9 c9 vs9 r.1) := ⟨by simp [go_sem], ⟨_, zrow_new W10 #[.slice x9 r.1.length c9] 25⟩, ho9.next hal⟩
  have hz10 := hb10.size
  have hg9 : W9.heap.size ≤ W10.heap.size ∧ W10.heap.size < (W10.alloc (.cells #[.slice x9 r.1.length c9] 25)).heap.size := ⟨hb10.size, by simp⟩
  clear y0 HC hE ho9 hb10 hal hz10
  have y0 := HG9.out.box
  have y1 := HC9.out.tb.box
  go_wp2_with fail
  generalize hWA : W10.alloc (.cells #[.slice x9 r.1.length c9] 25) = W11 at *
  generalize hga : W10.heap.size = g9 at *
  generalize hlo : W9.heap.size = loA at *
  clear hWA hga hlo y0 y1
  refine (eqTree_same _ _ _ _ _ _ loA _ 0 L8 _ (Nat.le_refl _) HC9.out.tb.le HG9.out.ans.objs HC9.out.tb.obj).mono ?_
  rintro e w11 ⟨rfl, hb11⟩
  have HC11 : Hid (CE w w11 ta tn tc L8 g6 x6 c6 r.1 L8 U8 b7 os lo9 up9 lb m f9 ops) := HC9.out.next hb11
  have HG11 : Hid (GB w11 loA g9 x9 c9 vs9 r.1) := HG9.out.next hb11
  have hle11 : loA ≤ g9 ∧ g9 < w11.heap.size := ⟨hg9.1, by have := hb11.size; omega⟩
  clear HC9 HG9 hb11 hg9
  go_upto_region 14 with fail
  have hC := HC11.out.next (Below.refl _ _).drew
  have hG := HG11.out.next (Below.refl _ _).drew
  go_cut [68] (fun s wx => s = .bool false ∧ Hid (CE w wx ta tn tc L8 g6 x6 c6 r.1 L8 U8 b7 os lo9 up9 lb m f9 ops) ∧ Hid (GB wx loA g9 x9 c9 vs9 r.1) ∧ g9 < wx.heap.size)
  case first =>
    have f0 := hC.xb.box
    have f1 := hC.ab.t
    go_region_with (first
      | (go_at_call 49; go_must (refine (toTree_any _ _ _ os 0 w.heap.size _ htn hS1 hC.ab.below.size (H.below hC.ab.below (Nat.le_refl _))).mono ?_; rintro x w12 ⟨⟨b12, rfl, h12⟩, hb12⟩; have hC12 := hC.next hb12; have hG12 := hG.next hb12; have f0' := hC12.xb.box))
      | (go_at_call 51; go_must (refine (eqTree_same _ _ _ _ _ _ L8 U8 _ _ _ (Nat.le_of_lt hC12.xb.lt) (Nat.le_refl _) hC12.xb.obj h12).mono ?_; rintro x w13 ⟨rfl, hb13⟩)))
    all_goals
      go_wp2_with fail
      go_meet
      exact ⟨rfl, hC12.next hb13, hG12.next hb13, by have := hb12.size; have := hb13.size; simp at *; omega⟩
  obtain ⟨rfl, HC13, HG13, hle13⟩ := hcut
  obtain ⟨W13, rfl⟩ : ∃ W13, W13 = wc := ⟨_, rfl⟩
  have hlg : loA ≤ g9 := hle11.1
  clear hC hG HC11 HG11 hle11
  go_wp2_with fail
  refine (toOpS_any la m lc ops 0 w.heap.size _ hm HC13.out.ab.below.size (H2.below HC13.out.ab.below (Nat.le_refl _))).mono ?_
  rintro x W14 ⟨⟨b14, rfl, ho14⟩, hb14⟩
  have HC14 : Hid (CE w W14 ta tn tc L8 g6 x6 c6 r.1 L8 U8 b7 os lo9 up9 lb m f9 ops) := HC13.out.next hb14
  have HG14 : Hid (GB W14 loA g9 x9 c9 vs9 r.1) := HG13.out.next hb14
  have hle14 : g9 < W14.heap.size := by have := hb14.size; omega
  have hz13 : lo9 ≤ W13.heap.size ∧ up9 ≤ W14.heap.size := ⟨by have := HC13.out.rb.lt; have := HC13.out.rb.ge; have := HC13.out.rb.le; omega, HC14.out.rb.le⟩
  have ho14' : OpsAt W14 W13.heap.size W14.heap.size (some ⟨b14, 0, none⟩) m ops := ho14
  clear HC13 HG13 hb14 hle13 ho14
  go_wp2_with fail
  refine (eqOpS_same (some ⟨lb, 0, none⟩) (some ⟨b14, 0, none⟩) m m m ops lo9 up9 _ _ W14 hz13.2 (Nat.le_refl _) HC14.out.rb.ops ho14').mono ?_
  rintro x W15 ⟨rfl, hb15⟩
  have HC15 : Hid (CE w W15 ta tn tc L8 g6 x6 c6 r.1 L8 U8 b7 os lo9 up9 lb m f9 ops) := HC14.out.next hb15
  have HG15 : Hid (GB W15 loA g9 x9 c9 vs9 r.1) := HG14.out.next hb15
  have hle15 : g9 < W15.heap.size := by have := hb15.size; omega
  clear HC14 HG14 hb15 hle14 ho14' hz13
  have y0 := HC15.out.xb.box
  have hnn := HC15.out.n4
  have hlw : L8 ≤ W15.heap.size := by have := HC15.out.xb.lt; have := HC15.out.n3; omega
  go_wp2_with fail
  refine (markTree_w 1 _ _ _ L8 U8 os _ (by omega) (by omega) HTN.out HTOT.out hlw HC15.out.xb.ty).mono ?_
  rintro e w16 ⟨⟨k15, rfl, hk1, hk2⟩, -, hO⟩
  have q1 := HC15.out.n1
  have q3 := HC15.out.n3
  have HA16 : Hid (AQ w w16 ta tn tc) := HC15.out.ab.under hO.1 (by omega)
  have HT16 : Hid (TB w16 L8 g6 x6 c6 r.1) := HC15.out.tb.under hO.1 (Nat.le_refl _)
  have HR16 : Hid (RB w16 lo9 up9 lb m f9 ops) := HC15.out.rb.only hO (by omega)
  have q5 := HC15.out.rb.ge
  have HLO : Hid (up9 ≤ loA) := hle9
  have HG16 : Hid (GB w16 loA g9 x9 c9 vs9 r.1) := HG15.out.only hO (by have := HC15.out.rb.lt; have := HLO.out; omega) (by have := HC15.out.rb.lt; have := HLO.out; omega)
  have hle16 : g9 < w16.heap.size := by have := hO.1.size; omega
  have HK : Hid (1 ≤ k15 ∧ k15 ≤ 4000000) := ⟨hk1, by have := HTOT.out; omega⟩
  have qlb : lb < up9 := HC15.out.rb.lt
  clear y0 HC15 HG15 hO hk1 hk2 hle15 hlw
  go_wp2_with fail
  refine (markOpS_zz (k15 : Int) (k15 - 1) (by have := HK.out; omega) (by have := HK.out; omega) (some ⟨lb, 0, none⟩) m m lb m lo9 f9 w16 hm HR16.out.opRow HR16.out.ty).mono ?_
  rintro x w17 ⟨rfl, -, hb17⟩
  have HA17 : Hid (AQ w w17 ta tn tc) := HA16.out.under hb17.below (by omega)
  have HT17 : Hid (TB w17 L8 g6 x6 c6 r.1) := HT16.out.under hb17.below (by omega)
  have HG17 : Hid (GB w17 loA g9 x9 c9 vs9 r.1) := HG16.out.but hb17 (by have := HLO.out; omega) (by have := HLO.out; omega)
  have hle17 : g9 < w17.heap.size := by have := hb17.below.size; omega
  have hk17 : ¬ (((k15 - 1 + 7 * m + 1 : Nat) : Int) < 0) := by omega
  generalize k15 - 1 + 7 * m + 1 = kk at *
  clear HA16 HT16 HG16 HR16 hb17 hle16 HK
  have y0 := HG17.out.box
  have y1 := HT17.out.box
  go_wp2_with fail
  refine (eqTree_same _ _ _ _ _ _ loA _ 0 L8 _ (Nat.le_refl _) HT17.out.le HG17.out.ans.objs HT17.out.obj).mono ?_
  rintro e w18 ⟨rfl, hb18⟩
  have HA18 : Hid (AQ w w18 ta tn tc) := HA17.out.next hb18
  have HT18 : Hid (TB w18 L8 g6 x6 c6 r.1) := HT17.out.next hb18
  have HG18 : Hid (GB w18 loA g9 x9 c9 vs9 r.1) := HG17.out.next hb18
  have hle18 : loA ≤ w18.heap.size := by have := hb18.size; omega
  clear y0 y1 HA17 HT17 HG17 hb18 hle17 hk17
  obtain ⟨K, hK⟩ : ∃ K : Nat, K = kAt 1 r.1 r.1.length := ⟨_, rfl⟩
  have HMK := markAns loA g9 x9 c9 vs9 r.1
  have HHD := heldAns loA x9 c9 vs9 r.1
  rw [← hK] at HMK HHD
  clear hK
  have y0 := HG18.out.box
  go_wp2_with fail
  refine (HMK _ hle18 HRS.out HG18.out).mono ?_
  rintro e w20 ⟨rfl, hH20, hbx20, hrw20, hb20⟩
  have q6 := HLO.out
  have HA20 : Hid (AQ w w20 ta tn tc) := HA18.out.under hb20 (by omega)
  have HT20 : Hid (TB w20 L8 g6 x6 c6 r.1) := HT18.out.under hb20 (by omega)
  have HH20 : Hid (HeldAt w20 loA x9 c9 vs9 r.1 ∧ ∃ f, w20.rowIs g9 25 1 f) := ⟨hH20, hrw20⟩
  clear y0 HA18 HT18 HG18 hb20 hle18 hH20 hrw20 HMK
  go_wp2_with fail
  refine (HHD _ HRS.out HH20.out.1).mono ?_
  rintro e w22 ⟨rfl, hb22⟩
  have HA22 : Hid (AQ w w22 ta tn tc) := HA20.out.next hb22
  have HT22 : Hid (TB w22 L8 g6 x6 c6 r.1) := HT20.out.next hb22
  have HH22 : Hid (HeldAt w22 loA x9 c9 vs9 r.1) := HH20.out.1.next hb22
  have HX22 : Hid (w22.cell? ⟨g9, 0, none⟩ = some (.slice x9 r.1.length c9) ∧ g9 < w22.heap.size) := by
    obtain ⟨f, hf⟩ := HH20.out.2
    exact ⟨by rw [hb22.cell (by simpa using hf.lt)]; exact hbx20, by have := hf.lt; have := hb22.size; omega⟩
  clear HA20 HT20 HH20 hb22 hbx20
  have hk22 : ¬ ((K : Int) < 0) := by omega
  have y0 := HA22.out.t
  go_wp2_with fail
  refine (toTree_any _ _ _ os 0 w.heap.size _ htn hS1 HA22.out.below.size (H.below HA22.out.below (Nat.le_refl _))).mono ?_
  rintro x W23 ⟨⟨b23, rfl, ho23⟩, hb23⟩
  have h23 : Hid (AQ w W23 ta tn tc) := HA22.out.next hb23
  clear y0
  go_wp2_with fail
  refine (toOpS_any la m lc ops 0 w.heap.size _ hm h23.out.below.size (H2.below h23.out.below (Nat.le_refl _))).mono ?_
  rintro x W24 ⟨⟨b24, rfl, ho24⟩, hb24⟩
  have h24 : Hid (AQ w W24 ta tn tc) := h23.out.next hb24
  have hz24 := hb24.size
  go_wp2_with fail
  refine (hIM b23 tn b24 _ _ _ _ _ (Nat.le_trans hU0 h24.out.below.size) (HS.below h24.out.below hU0) hz24 (ho23.below hb24 (Nat.le_refl _)) (Nat.le_refl _) ho24).mono ?_
  rintro x W25 hE
  obtain ⟨x14, c14, vs14, rfl, ho25, hb25⟩ := hE.ans
  have hal : Below W25.heap.size W25 (W25.alloc (.cells #[.slice x14 r.1.length c14] 25)) := (Below.refl _ _).alloc (Nat.le_refl _) _
  have hal2 := ((hb23.trans (hb24.mono hb23.size)).trans (hb25.mono (by have := hb23.size; have := hb24.size; omega))).trans (hal.mono (by have := hb23.size; have := hb24.size; have := hb25.size; omega))
  have HA26 : Hid (AQ w (W25.alloc (.cells #[.slice x14 r.1.length c14] 25)) ta tn tc) := HA22.out.next hal2
  have HT26 : Hid (TB (W25.alloc (.cells #[.slice x14 r.1.length c14] 25)) L8 g6 x6 c6 r.1) := HT22.out.next hal2
  have HH26 : Hid (HeldAt (W25.alloc (.cells #[.slice x14 r.1.length c14] 25)) loA x9 c9 vs9 r.1) := HH22.out.next hal2
  have HX26 : Hid ((W25.alloc (.cells #[.slice x14 r.1.length c14] 25)).cell? ⟨g9, 0, none⟩ = some (.slice x9 r.1.length c9)) := by
    show _ = _
    rw [hal2.cell (by simpa using HX22.out.2)]; exact HX22.out.1
  have HX27 : Hid (g9 < (W25.alloc (.cells #[.slice x14 r.1.length c14] 25)).heap.size) := by have := hal2.size; have := HX22.out.2; show _ < _; omega
  have HG27 : Hid (GB (W25.alloc (.cells #[.slice x14 r.1.length c14] 25)) W24.heap.size W25.heap.size x14 c14 vs14 r.1) := ⟨by simp [go_sem], ⟨_, zrow_new W25 #[.slice x14 r.1.length c14] 25⟩, ho25.next hal⟩
  clear hE ho25 hb25 hal hal2 ho23 ho24 hb23 hb24 h23 h24 hz24 HA22 HT22 HH22 HX22
  have y0 := HG27.out.box
  have y1 := HT26.out.box
  go_wp2_with fail
  generalize hWB : W25.alloc (.cells #[.slice x14 r.1.length c14] 25) = W27 at *
  generalize hgb : W25.heap.size = g14 at *
  generalize hlob : W24.heap.size = lo14 at *
  clear hWB hgb hlob y0 y1
  refine (eqTree_same _ _ _ _ _ _ lo14 _ 0 L8 _ (Nat.le_refl _) HT26.out.le HG27.out.ans.objs HT26.out.obj).mono ?_
  rintro e w28 ⟨rfl, hb28⟩
  have HA28 : Hid (AQ w w28 ta tn tc) := HA26.out.next hb28
  have HH28 : Hid (HeldAt w28 loA x9 c9 vs9 r.1) := HH26.out.next hb28
  have y0 : w28.cell? ⟨g9, 0, none⟩ = some (.slice x9 r.1.length c9) := by rw [hb28.cell (by simpa using HX27.out)]; exact HX26.out
  clear HA26 HT26 HH26 HG27 hb28 HX26 HX27
  go_wp2_with fail
  refine (HHD _ HRS.out HH28.out).mono ?_
  rintro e w31 ⟨rfl, hb31⟩
  have HA31 : Hid (AQ w w31 ta tn tc) := HA28.out.next hb31
  clear y0 HA28 HH28 hb31
  go_wp2_with fail
  go_ret
  exact ⟨rfl, HA31.out.below⟩
end Go.Proofs.YtnolbfijcnldjaaGreatDoor
