/-
  At every code the call of laws.FnSlimIds returns true: of the list that is drawn by it the program makes by each rule, and by all of them, what the specification makes; what is left names nothing that the list did not name; the code reads behind the call as it did. No condition.
-/
import Derived.Test.YtkllejaamnojpaaLongAll
import Derived.Test.YtkllejaamnojpaaSlimI1214
import Derived.Test.YtkllejaamnojpaaOpSet
import Derived.Test.YtkllejaamnojpaaWorn
import Derived.Test.YtkllejaamnojpaaClosed
import Derived.ProofKit
import Derived.OpenShut
import Derived.ShutString
import Derived.ChangeOld
namespace Go.Proofs.Ytkllejaamnojpaa
open Go.RowKit

theorem drawSlimL (a : Option Addr) (n c : Nat) (zs : List Int) (w : World) (hn : n ≤ 1048576) (hc : n ≤ c) (H : BytesAt w w.heap.size a n zs) :
    Calls Try.prog 15 #[.slice a n c] w fun e w' => DrawnL w e w' := by
  go_enter Try.func15, Try.ntmps15
  go_wp2_with fail
  refine (drawTexts a n c zs w hn hc H).mono ?_
  rintro e W1 ⟨⟨v, ops, rfl, h⟩, hb⟩
  go_wp2_with fail
  go_ret
  exact ⟨⟨v, ops, rfl, h⟩, hb⟩

/-! What is named stays among what was named. -/
def NamesIn (ops : List LOp) (o : LOp) : Prop := opOk o = true ∧ ∀ x ∈ opIds o, ∃ p ∈ ops, x ∈ opIds p
theorem mem_opIds_ok {o : LOp} (h : opOk o = true) {m : Nat} : m ∈ opIds o ↔ m < 32 ∧ inSet o.kind o.id.toNat o.dir.toNat o.dir2.toNat m = true := by
  rw [opIds_set h]; simp [setL]
theorem names_keeps (ops : List LOp) : OnKeeps (NamesIn ops) := fun a b ha hb hj => by
  have hok := ok_keeps a b ha.1 hb.1 hj
  refine ⟨hok, fun x hx => ?_⟩
  rw [mem_opIds_ok hok] at hx
  obtain ⟨h32, hx⟩ := hx
  have hbk : b.kind = 4 := by unfold joinsB at hj; simp at hj; exact hj.1.1
  have hA : inSet a.kind a.id.toNat a.dir.toNat a.dir2.toNat x = true → ∃ p ∈ ops, x ∈ opIds p := fun h => ha.2 x ((mem_opIds_ok ha.1).2 ⟨h32, h⟩)
  have hB : x = b.dir2.toNat → ∃ p ∈ ops, x ∈ opIds p := fun h => hb.2 x ((mem_opIds_ok hb.1).2 ⟨h32, by simp [inSet, hbk, h]⟩)
  unfold onB at hx
  split at hx
  · next h4 =>
    simp [inSet, h4] at hx
    rcases hx with (h | h) | h
    · exact hA (by simp [inSet, h])
    · exact hA (by simp [inSet, h, h4])
    · exact hB h
  · next h4 =>
    simp [inSet, h4] at hx
    rcases hx with h | ⟨h5, h⟩
    · exact hA (by simp [inSet, h])
    · exact hB h
theorem slim_names {ops : List LOp} (hf : formsB ops = true) : ∀ o ∈ slimL ops, ∀ x ∈ opIds o, ∃ p ∈ ops, x ∈ opIds p := by
  have h := (slimL_all (P := NamesIn ops) (names_keeps ops) (m := ops.length) (l := ops) ⟨fun o ho => ⟨(formsB_all.1 hf).1 o ho, fun x hx => ⟨o, ho, hx⟩⟩, Nat.le_refl _⟩).1
  exact fun o ho => (h o ho).2
/-- Numbers that are looked at only. -/
def NumsI (w : World) (U : Nat) (a : Option Addr) (n : Nat) (l : List Nat) : Prop := n = l.length ∧ ∀ i, i < n → ∃ g k, a = some ⟨g, 0, none⟩ ∧ g < U ∧ l[i]? = some k ∧ w.cell? ⟨g, i, none⟩ = some (.int .i64 (k : Nat))
theorem OwnInts.numsI {w : World} {B : Nat} {v : Value} {l : List Nat} (h : OwnInts w B v l) : ∃ a c, v = .slice a l.length c ∧ NumsI w w.heap.size a l.length l := by
  obtain ⟨a, c, rfl, hc⟩ := h.form
  exact ⟨a, c, rfl, rfl, fun i hi => by
    obtain ⟨g, k, h1, h2, h3, h4, h5⟩ := hc i hi
    exact ⟨g, k, h1, h3, h4, h5⟩⟩
theorem NumsI.below {w w' : World} {U B : Nat} {a : Option Addr} {n : Nat} {l : List Nat} (h : NumsI w U a n l) (hb : Below B w w') (hU : U ≤ B) : NumsI w' U a n l := ⟨h.1, fun i hi => by
  obtain ⟨g, k, h1, h3, h4, h5⟩ := h.2 i hi
  exact ⟨g, k, h1, h3, h4, by rw [hb.cell (by simp; omega)]; exact h5⟩⟩
theorem any_take {α : Type} {p : α → Bool} {l : List α} {j : Nat} {x : α} (h : l[j]? = some x) : (l.take (j + 1)).any p = ((l.take j).any p || p x) := by
  have hj : j < l.length := (List.getElem?_eq_some_iff.1 h).1
  rw [List.take_succ_eq_append_getElem hj, (List.getElem?_eq_some_iff.1 h).2]
  simp
theorem opIds_le3 (o : LOp) : (opIds o).length ≤ 3 := opIds_le o

set_option maxHeartbeats 1000000 in
set_option maxRecDepth 20000 in
theorem walkSlimIdsL (a : Option Addr) (n c : Nat) (zs : List Int) (w : World) (hc : n ≤ c) (hcb : n ≤ maxLen) (H : BytesAt w w.heap.size a n zs) :
    Calls Try.prog 3 #[.slice a n c] w fun e w' => e = .returned (.bool true) ∧ Below w.heap.size w w' := by
  unfold maxLen at hcb
  by_cases hbig : 1048576 < n
  · go_enter Try.func3, Try.ntmps3
    go_wp2_with fail
    go_ret
    exact ⟨rfl, Below.refl _ _⟩
  go_enter Try.func3, Try.ntmps3
  go_wp2_with fail
  refine (drawSlimL a n c zs w (by omega) hc H).mono ?_
  rintro e W1 ⟨⟨v, ops, rfl, ho, hl, hsm, hdn⟩, hb1⟩
  clear hdn
  have HZ : Hid (∀ o ∈ ops, OpSz o) := fun o h => (hsm o h).sz
  obtain ⟨va, vc, rfl, hO⟩ := ho.at_ HZ.out
  have hcap : ops.length ≤ vc := ho.cap
  obtain ⟨s, hs⟩ : ∃ s, s = ifOk slimL ops := ⟨_, rfl⟩
  have HZS : Hid (∀ o ∈ s, OpSz o) := by rw [hs]; exact ifOk_sz (slimL_all sz_keeps ⟨HZ.out, Nat.le_refl _⟩)
  have hsle : s.length ≤ ops.length := by rw [hs]; exact ifOk_le slimL_le ops
  have HP : Hid (∀ o ∈ s, ∀ x ∈ opIds o, ∃ p ∈ ops, x ∈ opIds p) := fun o ho => by
    rcases hf : formsB ops with _ | _
    · rw [hs, ifOk_no hf] at ho; cases ho
    · rw [hs] at ho
      unfold ifOk at ho
      rw [hf] at ho
      exact slim_names hf o ho
  have HS : Hid (s = ifOk slimL ops) := hs
  have HZT : Hid (∀ o ∈ ifOk textsL ops, OpSz o) := ifOk_sz (textsL_all ⟨HZ.out, Nat.le_refl _⟩)
  have HZP : Hid (∀ o ∈ ifOk pairsL ops, OpSz o) := ifOk_sz (pairsL_all ⟨HZ.out, Nat.le_refl _⟩)
  have HZM : Hid (∀ o ∈ ifOk movesL ops, OpSz o) := ifOk_sz (movesL_all sz_keeps ⟨HZ.out, Nat.le_refl _⟩)
  clear ho hsm hs
  go_wp2_with fail
  refine (implSlim _ _ _ ops _ _ _ hcap (Nat.le_refl _) hO).mono ?_
  rintro e W2 ⟨⟨v2, rfl, ho2⟩, hb2⟩
  rw [← HS.out] at ho2
  obtain ⟨a2, c2, rfl, hS2⟩ := ho2.at_ HZS.out
  have hB2 : Below w.heap.size w W2 := hb1.trans (hb2.mono hb1.size)
  have hO2 := hO.below hb2 (Nat.le_refl _)
  have hz12 := hb2.size
  clear ho2 hb2 hb1 hO
  go_wp2_with fail
  refine (specSlim _ _ _ ops _ _ _ hz12 hO2).mono ?_
  rintro e W3 ⟨⟨v3, rfl, ho3⟩, hb3⟩
  rw [← HS.out] at ho3
  obtain ⟨a3, c3, rfl, hS3⟩ := ho3.at_ HZS.out
  have hB3 : Below w.heap.size w W3 := hB2.trans (hb3.mono hB2.size)
  have hS23 := hS2.below hb3 (Nat.le_refl _)
  have hO3 := hO2.below hb3 hz12
  have hz23 := hb3.size
  clear ho3 hb3 hB2 hS2 hO2
  go_wp2_with fail
  refine (sameOps _ _ _ _ _ _ s _ _ _ _ _ hS23 hS3).mono ?_
  rintro e W4 ⟨rfl, m4, rfl⟩
  have hS4 := hS23.drewN m4
  have hO4 := hO3.drewN m4
  have hB4 : Below w.heap.size w (W3.drewN m4) := hB3.trans ((Below.drewN W3 m4).mono hB3.size)
  have hz4 : W2.heap.size ≤ (W3.drewN m4).heap.size := by simpa using hz23
  clear hS23 hO3 hB3 hS3 hz23
  generalize W3.drewN m4 = X0 at *
  go_wp2_with fail
  refine (implSlimTexts _ _ _ ops _ _ _ hcap (by omega) hO4).mono ?_
  rintro e Y1 ⟨⟨y1, rfl, hoy1⟩, hby1⟩
  obtain ⟨ay1, cy1, rfl, hSY1⟩ := hoy1.at_ HZT.out
  have hO5 := hO4.below hby1 (by omega)
  have hzy1 := hby1.size
  have hBY1 : Below w.heap.size w Y1 := hB4.trans (hby1.mono hB4.size)
  have hS5 := hS4.below hby1 (by omega)
  clear hoy1 hby1 hB4 hO4 hS4
  go_wp2_with fail
  refine (specSlimTexts _ _ _ ops _ _ _ (by omega) hO5).mono ?_
  rintro e Y2 ⟨⟨y2, rfl, hoy2⟩, hby2⟩
  obtain ⟨ay2, cy2, rfl, hSY2⟩ := hoy2.at_ HZT.out
  have hO6 := hO5.below hby2 (by omega)
  have hS6 := hS5.below hby2 (by omega)
  have hSY12 := hSY1.below hby2 (Nat.le_refl _)
  have hzy2 := hby2.size
  have hBY2 : Below w.heap.size w Y2 := hBY1.trans (hby2.mono hBY1.size)
  clear hoy2 hby2 hBY1 hO5 hS5 hSY1
  go_wp2_with fail
  refine (sameOps _ _ _ _ _ _ (ifOk textsL ops) _ _ _ _ _ hSY12 hSY2).mono ?_
  rintro e Y3 ⟨rfl, m5, rfl⟩
  have hS4 := hS6.drewN m5
  have hO4 := hO6.drewN m5
  have hB4 : Below w.heap.size w (Y2.drewN m5) := hBY2.trans ((Below.drewN Y2 m5).mono hBY2.size)
  have hz4 : W2.heap.size ≤ (Y2.drewN m5).heap.size := by simp; omega
  clear hS6 hO6 hBY2 hSY12 hSY2 hzy1 hzy2
  generalize Y2.drewN m5 = X1 at *
  go_wp2_with fail
  refine (implSlimPairs _ _ _ ops _ _ _ (by omega) hO4).mono ?_
  rintro e Y1 ⟨⟨y1, rfl, hoy1⟩, hby1⟩
  obtain ⟨ay1, cy1, rfl, hSY1⟩ := hoy1.at_ HZP.out
  have hO5 := hO4.below hby1 (by omega)
  have hzy1 := hby1.size
  have hBY1 : Below w.heap.size w Y1 := hB4.trans (hby1.mono hB4.size)
  have hS5 := hS4.below hby1 (by omega)
  clear hoy1 hby1 hB4 hO4 hS4
  go_wp2_with fail
  refine (specSlimPairs _ _ _ ops _ _ _ (by omega) hO5).mono ?_
  rintro e Y2 ⟨⟨y2, rfl, hoy2⟩, hby2⟩
  obtain ⟨ay2, cy2, rfl, hSY2⟩ := hoy2.at_ HZP.out
  have hO6 := hO5.below hby2 (by omega)
  have hS6 := hS5.below hby2 (by omega)
  have hSY12 := hSY1.below hby2 (Nat.le_refl _)
  have hzy2 := hby2.size
  have hBY2 : Below w.heap.size w Y2 := hBY1.trans (hby2.mono hBY1.size)
  clear hoy2 hby2 hBY1 hO5 hS5 hSY1
  go_wp2_with fail
  refine (sameOps _ _ _ _ _ _ (ifOk pairsL ops) _ _ _ _ _ hSY12 hSY2).mono ?_
  rintro e Y3 ⟨rfl, m5, rfl⟩
  have hS4 := hS6.drewN m5
  have hO4 := hO6.drewN m5
  have hB4 : Below w.heap.size w (Y2.drewN m5) := hBY2.trans ((Below.drewN Y2 m5).mono hBY2.size)
  have hz4 : W2.heap.size ≤ (Y2.drewN m5).heap.size := by simp; omega
  clear hS6 hO6 hBY2 hSY12 hSY2 hzy1 hzy2
  generalize Y2.drewN m5 = X2 at *
  go_wp2_with fail
  refine (implSlimMoves _ _ _ ops _ _ _ (by omega) hO4).mono ?_
  rintro e Y1 ⟨⟨y1, rfl, hoy1⟩, hby1⟩
  obtain ⟨ay1, cy1, rfl, hSY1⟩ := hoy1.at_ HZM.out
  have hO5 := hO4.below hby1 (by omega)
  have hzy1 := hby1.size
  have hBY1 : Below w.heap.size w Y1 := hB4.trans (hby1.mono hB4.size)
  have hS5 := hS4.below hby1 (by omega)
  clear hoy1 hby1 hB4 hO4 hS4
  go_wp2_with fail
  refine (specSlimMoves _ _ _ ops _ _ _ (by omega) hO5).mono ?_
  rintro e Y2 ⟨⟨y2, rfl, hoy2⟩, hby2⟩
  obtain ⟨ay2, cy2, rfl, hSY2⟩ := hoy2.at_ HZM.out
  have hO6 := hO5.below hby2 (by omega)
  have hS6 := hS5.below hby2 (by omega)
  have hSY12 := hSY1.below hby2 (Nat.le_refl _)
  have hzy2 := hby2.size
  have hBY2 : Below w.heap.size w Y2 := hBY1.trans (hby2.mono hBY1.size)
  clear hoy2 hby2 hBY1 hO5 hS5 hSY1
  go_wp2_with fail
  refine (sameOps _ _ _ _ _ _ (ifOk movesL ops) _ _ _ _ _ hSY12 hSY2).mono ?_
  rintro e Y3 ⟨rfl, m5, rfl⟩
  have hS4 := hS6.drewN m5
  have hO4 := hO6.drewN m5
  have hB4 : Below w.heap.size w (Y2.drewN m5) := hBY2.trans ((Below.drewN Y2 m5).mono hBY2.size)
  have hz4 : W2.heap.size ≤ (Y2.drewN m5).heap.size := by simp; omega
  clear hS6 hO6 hBY2 hSY12 hSY2 hzy1 hzy2
  generalize Y2.drewN m5 = X3 at *
  have HSS : Hid (OpsAt X3 W1.heap.size W2.heap.size a2 s.length s) := hS4
  have HOO : Hid (OpsAt X3 w.heap.size W1.heap.size va ops.length ops) := hO4
  clear hS4 hO4 HZT HZP HZM HZS HZ HS
  go_wp2_with fail
  go_loopg [5] s.length (fun g i wr => ∃ j : Nat, j ≤ s.length ∧ Hid (g = s.length - j) ∧ i = .int .i64 j ∧ Below X3.heap.size X3 wr)
  case atStart => exact ⟨0, Nat.zero_le _, rfl, rfl, Below.refl _ _⟩
  case round =>
    obtain ⟨j, hj, hk, rfl, hb⟩ := hrel
    have hzr := hb.size
    by_cases hlt : j < s.length
    · obtain ⟨b, off, ha, _, hbU, hcc⟩ := HSS.out.at_ (by omega)
      subst ha
      obtain ⟨x, hx, hsx, hxa⟩ := hcc j hlt
      obtain ⟨x0, x1, x2, x3, x4, x5, x6⟩ := hxa.of_block (hb.block b (by omega))
      have HID := fun w => implOpIds x w hsx
      simp only [LOp.val] at HID
      have HX : Hid (∀ k ∈ opIds x, ∃ p ∈ ops, k ∈ opIds p) := HP.out x (List.mem_of_getElem? hx)
      have hlt' : (j : Int) < (s.length : Int) := by omega
      clear hx hcc hxa hsx
      go_wp2_with fail
      refine (HID _).mono ?_
      rintro e V1 ⟨⟨v1, rfl, hv1⟩, hbv⟩
      obtain ⟨ai, ci, rfl, hNI⟩ := hv1.out.numsI
      have HNI : Hid (NumsI V1 V1.heap.size ai (opIds x).length (opIds x)) := hNI
      have hl3 := opIds_le3 x
      have hbV : Below X3.heap.size X3 V1 := hb.trans (hbv.mono hb.size)
      have hzV := hbV.size
      obtain ⟨JS, hJS⟩ : ∃ q, q = j := ⟨_, rfl⟩
      clear hv1 hbv hNI HID x0 x1 x2 x3 x4 x5 x6
      generalize opIds x = ids at *
      go_wp2_with fail
      go_loopg [7] ids.length (fun g i wr => ∃ k : Nat, k ≤ ids.length ∧ Hid (g = ids.length - k) ∧ i = .int .i64 k ∧ Below V1.heap.size V1 wr)
      case atStart => exact ⟨0, Nat.zero_le _, rfl, rfl, Below.refl _ _⟩
      case round =>
        clear hb hzr
        obtain ⟨k, hk2, hkk, rfl, hb⟩ := hrel
        have hzr := hb.size
        by_cases hlk : k < ids.length
        · obtain ⟨gi, y, rfl, hgi, hy, cy⟩ := HNI.out.2 k hlk
          have hlk' : (k : Int) < (ids.length : Int) := by omega
          have HY : Hid (∃ p ∈ ops, y ∈ opIds p) := HX.out y (List.mem_of_getElem? hy)
          clear hy
          obtain ⟨VR, hVR⟩ : ∃ V : World, V = wr := ⟨_, rfl⟩
          rw [← hVR] at hb hzr
          go_wp2_with fail
          go_loopg [8, 9] ops.length (fun g so i wr => ∃ t : Nat, t ≤ ops.length ∧ Hid (g = ops.length - t) ∧ i = .int .i64 t ∧ (∃ bs : Bool, so = .bool bs ∧ Hid (bs = (ops.take t).any fun p => (opIds p).any fun z => z == y)) ∧ Below VR.heap.size VR wr)
          case atStart => exact ⟨0, Nat.zero_le _, rfl, rfl, ⟨false, rfl, by show _ = _; simp⟩, by rw [hVR]; exact Below.refl _ _⟩
          case round =>
            clear hVR
            obtain ⟨t, ht, hkt, rfl, ⟨bs, rfl, hbs⟩, hb3⟩ := hrel
            have hz3 := hb3.size
            by_cases hlt2 : t < ops.length
            · obtain ⟨b', off', ha', _, hbU', hcc'⟩ := HOO.out.at_ (by omega)
              subst ha'
              obtain ⟨p, hp, hsp, hpa⟩ := hcc' t hlt2
              obtain ⟨p0, p1, p2, p3, p4, p5, p6⟩ := ((hpa.of_block (hbV.block b' (by omega))).of_block (hb.block b' (by omega))).of_block (hb3.block b' (by omega))
              have HID := fun w => implOpIds p w hsp
              simp only [LOp.val] at HID
              have hlt2' : (t : Int) < (ops.length : Int) := by omega
              have HT : Hid ((ops.take (t + 1)).any (fun p => (opIds p).any fun z => z == y) = (bs || (opIds p).any fun z => z == y)) := by show _ = _; rw [any_take hp, ← hbs.out]
              clear hp hcc' hpa hsp hbs
              go_wp2_with fail
              refine (HID _).mono ?_
              rintro e V4 ⟨⟨v4, rfl, hv4⟩, hbv4⟩
              obtain ⟨ao, co, rfl, hNO⟩ := hv4.out.numsI
              have HNO : Hid (NumsI V4 V4.heap.size ao (opIds p).length (opIds p)) := hNO
              have hl4 := opIds_le3 p
              have hb4 : Below VR.heap.size VR V4 := hb3.trans (hbv4.mono hb3.size)
              have hz44 := hb4.size
              have cy4 : V4.cell? ⟨gi, k, none⟩ = some (.int .i64 (y : Nat)) := by rw [hb4.cell (by simp; omega), hb.cell (by simpa using hgi)]; exact cy
              clear hv4 hbv4 hNO HID p0 p1 p2 p3 p4 p5 p6 hb3 hz3
              generalize opIds p = old at *
              go_wp2_with fail
              go_loopg [8, 11] old.length (fun g so i wr => ∃ q : Nat, q ≤ old.length ∧ Hid (g = old.length - q) ∧ i = .int .i64 q ∧ (∃ b5 : Bool, so = .bool b5 ∧ Hid (b5 = (bs || (old.take q).any fun z => z == y))) ∧ ∃ d, wr = V4.drewN d)
              case atStart => exact ⟨0, Nat.zero_le _, rfl, rfl, ⟨bs, rfl, by show _ = _; simp⟩, 0, rfl⟩
              case round =>
                obtain ⟨q, hq, hkq, rfl, ⟨b5, rfl, hb5⟩, d, rfl⟩ := hrel
                by_cases hlq : q < old.length
                · obtain ⟨go, z, rfl, _, hz, cz⟩ := HNO.out.2 q hlq
                  have hlq' : (q : Int) < (old.length : Int) := by omega
                  have HQ : Hid ((old.take (q + 1)).any (fun z => z == y) = ((old.take q).any (fun z => z == y) || (z == y))) := any_take hz
                  clear hz
                  cases b5
                  · rcases hzy : ((z : Int) == (y : Int)) with _ | _
                    · have HB6 : Hid (false = (bs || (old.take (q + 1)).any fun z => z == y)) := by
                        show _ = _
                        have hzn : (z == y) = false := by rw [beq_eq_false_iff_ne] at hzy ⊢; exact fun h => hzy (by rw [h])
                        rw [HQ.out, hzn, Bool.or_false]; exact hb5.out
                      go_wp2_with fail
                      go_quiet (fail)
                      go_wp2_with fail
                      go_roundg (old.length - (q + 1))
                      case measure => have := hkq.out; omega
                      case rel => exact ⟨q + 1, by omega, rfl, by go_num, ⟨false, rfl, HB6.out⟩, _, rfl⟩
                    · have HB6 : Hid (true = (bs || (old.take (q + 1)).any fun z => z == y)) := by
                        show _ = _
                        have hzn : (z == y) = true := beq_iff_eq.2 (by have h1 := beq_iff_eq.1 hzy; omega)
                        rw [HQ.out, hzn]; simp
                      go_wp2_with fail
                      go_quiet (fail)
                      go_wp2_with fail
                      go_roundg (old.length - (q + 1))
                      case measure => have := hkq.out; omega
                      case rel => exact ⟨q + 1, by omega, rfl, by go_num, ⟨true, rfl, HB6.out⟩, _, rfl⟩
                  · have HB6 : Hid (true = (bs || (old.take (q + 1)).any fun z => z == y)) := by
                      show _ = _
                      rw [HQ.out, ← Bool.or_assoc, ← hb5.out]; simp
                    go_wp2_with fail
                    go_quiet (fail)
                    go_wp2_with fail
                    go_roundg (old.length - (q + 1))
                    case measure => have := hkq.out; omega
                    case rel => exact ⟨q + 1, by omega, rfl, by go_num, ⟨true, rfl, HB6.out⟩, _, rfl⟩
                · have hlq' : ¬ (q : Int) < (old.length : Int) := by omega
                  have HB7 : Hid (b5 = (ops.take (t + 1)).any fun p => (opIds p).any fun z => z == y) := by
                    show _ = _
                    rw [HT.out, hb5.out, List.take_of_length_le (by omega)]
                  clear hb5
                  go_wp2_with fail
                  go_roundg (ops.length - (t + 1))
                  case measure => have := hkt.out; omega
                  case rel => exact ⟨t + 1, by omega, rfl, by go_num, ⟨b5, rfl, HB7.out⟩, hb4.trans ((Below.drewN V4 d).mono hb4.size)⟩
            · have hlt2' : ¬ (t : Int) < (ops.length : Int) := by omega
              obtain rfl : bs = true := by
                rw [hbs.out, List.take_of_length_le (by omega), List.any_eq_true]
                obtain ⟨p, h1, h2⟩ := HY.out
                exact ⟨p, h1, by rw [List.any_eq_true]; exact ⟨y, h2, by simp⟩⟩
              clear hbs
              go_wp2_with fail
              go_roundg (ids.length - (k + 1))
              case measure => have := hkk.out; omega
              case rel => exact ⟨k + 1, by omega, rfl, by go_num, hb.trans (hb3.mono hzr)⟩
        · have hlk' : ¬ (k : Int) < (ids.length : Int) := by omega
          go_wp2_with fail
          go_roundg (s.length - (j + 1))
          case measure => have := hk.out; omega
          case rel => exact ⟨j + 1, by omega, rfl, by go_num, hbV.trans (hb.mono hbV.size)⟩
    · have hlt' : ¬ (j : Int) < (s.length : Int) := by omega
      go_wp2_with fail
      go_ret
      exact ⟨rfl, hB4.trans (hb.mono hB4.size)⟩

namespace fnSlimIds
open Go.ChangeShapes Go.WideShapes Go.ChangeAt Go.RowKit
open Go.ChangeMaps (open_string shut_string)
set_option linter.unusedVariables false

theorem own : ownKnob Try.prog.godebug = none := by kernel_rfl

set_option maxRecDepth 100000 in
theorem lifted (os : Os) (started : os.Started) (H : Type) (enc : TypeId × Value → H) :
    ReturnsInHanded {} Try.checked os 3 .any (Rows.fnSlimIdsSpec.pre6 enc Try.prog Try.f3 Rows.fnSlimIdsRow.domain false) (Rows.fnSlimIdsSpec.post enc Try.prog Try.f3 false true false false) := by
  refine returnsInHanded_of_change (C := Try.checked) own started (by kernel_rfl) Try.func3
    (ChangeSpec.witness6 (enc := enc) (C := Try.checked) false ⟨#[], #[.slice none 0 0], []⟩ 8 (by kernel_rfl) (by kernel_rfl) (by kernel_rfl) (by kernel_rfl)) ?_
  intro W base args ds gs before hval0 hW hcnd _
  have hval : ∀ (j : Nat) t v, Try.f3.params[j]? = some t → args[j]? = some v → Value.okWide Try.prog W .any base t v := hval0
  have hW' := hW
  obtain ⟨p, q, hA0, hV, rfl, hfz, hnd⟩ := hW
  have hA : DataW.TrodAll enc Try.prog W 0 (fun _ => true) true Try.f3.params.toList args.toList ds p := hA0
  rw [Try.params3] at hA hval
  obtain ⟨v0, vs0, d0, ds0, p0, q0, hargs, rfl, rfl, h0, r0⟩ := trodAll_cons hA
  obtain ⟨rfl, rfl, rfl⟩ := trodAll_nil r0
  obtain rfl : args = #[v0] := by cases args; simp_all
  obtain ⟨rfl, rfl⟩ := trodVars_none hV
  have k0 := h0
  have lt0 : ∀ x ∈ p0, x.block < W.heap.size := by obtain ⟨m, hm⟩ := k0; exact DataW.trod_lt m _ _ _ hm
  obtain ⟨a0, n0, c0, z0, rfl, hnc0, hnm0, w0⟩ := open_bytes (hval 0 22 v0 rfl rfl) h0
  clear hA0 hval0
  refine (walkSlimIdsL a0 n0 c0 z0 W hnc0 hnm0 w0).mono fun e W' ⟨he, bel⟩ => ?_
  subst he
  exact ⟨_, rfl, _, _, _, [], _, [], hW', trodAll_mk1 (shut_bool Try.underlying4 _), (trodAll_cons_mk (Below.trod fLaid (by kernel_rfl) (of_decide_eq_true (by kernel_rfl)) k0 bel lt0) trodAll_mk0), rfl, bel.frame _, fun h => by cases h⟩

set_option maxHeartbeats 4000000 in
theorem closed : joinedFacts Try.prog 3 Try.f3 Rows.fnSlimIdsSpec Rows.fnSlimIdsRow = true := by
  refine closedOf rfl rfl rfl ?_ ?_ ?_ ?_ ?_ ?_ ?_ ?_ ?_ ?_ ?_ ?_ ?_ ?_ ?_ ?_ ?_ ?_ ?_ rfl rfl ?_ ?_ ?_
  all_goals (as_aux_lemma => kernel_rfl)

theorem over : Rows.fnSlimIdsRow.holds Try.pinned (OpenSpec.ofChange Rows.fnSlimIdsSpec) :=
  OpenClaim.holds_of_wide 3 Try.f3 rfl rfl rfl rfl rfl rfl rfl ⟨rfl, rfl, rfl, rfl, rfl⟩ rfl rfl rfl rfl rfl (by kernel_rfl) Try.func3 closed
    (of_decide_eq_true (by kernel_rfl)) (by unfold Func.isWrapper; first | (rw [if_pos (by decide +kernel)]; kernel_rfl) | (rw [if_neg (by decide +kernel)]; exact ⟨rfl, rfl⟩))
    (fun os started H enc _ => lifted os started H enc)
end fnSlimIds

theorem fnSlimIds_holds : Rows.FnSlimIdsSaid := fnSlimIds.over
#print axioms fnSlimIds_holds
end Go.Proofs.Ytkllejaamnojpaa
