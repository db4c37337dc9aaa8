/- Lemmas that the proofs of this seat share: Word, Mem, Eq, Open, SameAll. -/
import Derived.Test.YtloopeipheklpaaGreatDoorChecked
import GoSem.Claim
import GoSem.ClaimJoined
import GoSem.ClaimMapViews
import Derived.JoinedTies
import Derived.KernelRfl
import Derived.RowKit
import Derived.WalkKit
import Derived.ProofKit
import Derived.WalkSpells
import Derived.WalkLawsBesides
import Derived.Below
import Derived.Deep.QuietTactic
import Derived.BigQuiet
import Derived.Deep.RegionWith
import Derived.Deep.LoopGhost
import Derived.Deep.OwnRows
import Derived.Outline
import Derived.Deep.SlicePairs
import Derived.Lib.SmallJoins
import Derived.Deep.DeepCutAuto
namespace Go.Proofs.YtloopeipheklpaaGreatDoor
section
open Go.RowKit
def ltr (c : Int) : Bool:=decide (97 ≤ c) && decide (c ≤ 122)
def fig (c : Int) : Bool:=decide (48 ≤ c) && decide (c ≤ 57)
def allB (p : Int → Bool) (l : List UInt8) : Bool:=l.all fun c=>p c.toNat
def word (l : List UInt8) : Bool:=allB ltr l && decide (0 < l.length) && decide (l.length ≤ 4)
def ltrFig (c : Int) : Bool:=ltr c || fig c
def body (l : List UInt8) : Bool:=allB ltrFig l && decide (l.length ≤ 12)
theorem ltr_yes {c : Int} (h1 : 97 ≤ c) (h2 : c ≤ 122) : ltr c = true:=by simp [ltr,h1,h2]
theorem ltr_lo {c : Int} (h1 : ¬ 97 ≤ c) : ltr c = false:=by simp [ltr,h1]
theorem ltr_hi {c : Int} (h2 : ¬ c ≤ 122) : ltr c = false:=by simp [ltr,h2]
theorem fig_yes {c : Int} (h1 : 48 ≤ c) (h2 : c ≤ 57) : fig c = true:=by simp [fig,h1,h2]
theorem fig_lo {c : Int} (h1 : ¬ 48 ≤ c) : fig c = false:=by simp [fig,h1]
theorem fig_hi {c : Int} (h2 : ¬ c ≤ 57) : fig c = false:=by simp [fig,h2]
theorem take_snoc (s : ByteArray) (k : Nat) (h : k < s.size) : s.data.toList.take (k + 1) = s.data.toList.take k ++ [s[k]]:=by
  rw [List.take_succ_eq_append_getElem (by simpa using h)]; rfl
theorem allB_take (p : Int → Bool) (s : ByteArray) (k : Nat) (h : k < s.size) : allB p (s.data.toList.take (k + 1)) = (allB p (s.data.toList.take k) && p s[k].toNat):=by
  rw [take_snoc s k h]; simp [allB]
theorem allB_no (p : Int → Bool) (s : ByteArray) (k : Nat) (h : k < s.size) (hp : p s[k].toNat = false) : allB p s.data.toList = false:=by
  have : s.data.toList = s.data.toList.take (k + 1) ++ s.data.toList.drop (k + 1):=(List.take_append_drop _ _).symm
  rw [this]
  have h1:=allB_take p s k h
  rw [hp,Bool.and_false] at h1
  unfold allB at h1 ⊢
  rw [List.all_append,h1,Bool.false_and]
theorem allB_full (p : Int → Bool) (s : ByteArray) (k : Nat) (h : ¬ k < s.size) (hp : allB p (s.data.toList.take k) = true) : allB p s.data.toList = true:=by
  rwa [List.take_of_length_le (by simp; omega)] at hp
theorem isLetter_any (c : Int) (w : World) : Calls Tryz.prog 247 #[.int .u8 c] w fun e w'=>e = .returned (.bool (ltr c)) ∧ w' = w:=by
  by_cases h1 : 97 ≤ c
  · by_cases h2 : c ≤ 122
    · rw [ltr_yes h1 h2]
      go_enter Tryz.func247,Tryz.ntmps247
      go_wp2
      go_ret
      exact ⟨rfl,rfl⟩
    · rw [ltr_hi h2]
      go_enter Tryz.func247,Tryz.ntmps247
      go_wp2
      go_ret
      exact ⟨rfl,rfl⟩
  · rw [ltr_lo h1]
    go_enter Tryz.func247,Tryz.ntmps247
    go_wp2
    go_ret
    exact ⟨rfl,rfl⟩
theorem isFigure_any (c : Int) (w : World) : Calls Tryz.prog 248 #[.int .u8 c] w fun e w'=>e = .returned (.bool (fig c)) ∧ w' = w:=by
  by_cases h1 : 48 ≤ c
  · by_cases h2 : c ≤ 57
    · rw [fig_yes h1 h2]
      go_enter Tryz.func248,Tryz.ntmps248
      go_wp2
      go_ret
      exact ⟨rfl,rfl⟩
    · rw [fig_hi h2]
      go_enter Tryz.func248,Tryz.ntmps248
      go_wp2
      go_ret
      exact ⟨rfl,rfl⟩
  · rw [fig_lo h1]
    go_enter Tryz.func248,Tryz.ntmps248
    go_wp2
    go_ret
    exact ⟨rfl,rfl⟩
theorem word_short {l : List UInt8} (h : l.length < 1) : word l = false:=by simp [word]; omega
theorem word_long {l : List UInt8} (h : 4 < l.length) : word l = false:=by simp [word]; omega
theorem word_all {l : List UInt8} (h : 1 ≤ l.length) (h' : l.length ≤ 4) : word l = allB ltr l:=by
  have a : decide (0 < l.length) = true:=by simp; omega
  have b : decide (l.length ≤ 4) = true:=by simp; omega
  simp only [word,a,b,Bool.and_true]
theorem ret_bool {a b : Bool} (h : a = b) : Ending.returned (.bool a) = .returned (.bool b):=by rw [h]
set_option maxHeartbeats 400000 in
theorem implWord (s : ByteArray) (w : World) (hs : s.size ≤ maxLen) :
    Calls Tryz.prog 246 #[.string s] w fun e w'=>e = .returned (.bool (word s.data.toList)) ∧ w' = w:=by
  unfold maxLen at hs
  have hl : s.data.toList.length = s.size:=by simp
  by_cases h1 : s.size < 1
  · rw [word_short (by omega)]
    go_enter Tryz.func246,Tryz.ntmps246
    go_wp2
    go_ret
    exact ⟨rfl,rfl⟩
  by_cases h4 : 4 < s.size
  · rw [word_long (by omega)]
    go_enter Tryz.func246,Tryz.ntmps246
    go_wp2
    go_ret
    exact ⟨rfl,rfl⟩
  rw [word_all (by omega) (by omega)]
  clear hl
  go_enter Tryz.func246,Tryz.ntmps246
  go_wp2
  go_loop [14] (fun i=>∃ k : Nat,k ≤ s.size ∧ i = .int .i64 k ∧ allB ltr (s.data.toList.take k) = true) (fun i=>s.size - (intOf i).toNat)
  case atStart=>exact ⟨0,Nat.zero_le _,rfl,rfl⟩
  case round =>
    obtain ⟨k,hk,rfl,ha⟩:=hrel
    have HA : Hid (allB ltr (s.data.toList.take k) = true):=ha
    clear ha
    by_cases hlt : k < s.size
    · cases hp : ltr s[k].toNat
      · have HP : Hid (ltr s[k].toNat = false):=hp
        clear hp
        go_wp2_with (go_at_call 247; refine (isLetter_any _ _).mono ?_; rintro e w' ⟨rfl,rfl⟩; rw [HP.out])
        go_ret
        exact ⟨ret_bool (allB_no _ _ _ hlt HP.out).symm,rfl⟩
      · have HP : Hid (ltr s[k].toNat = true):=hp
        clear hp
        go_wp2_with (go_at_call 247; refine (isLetter_any _ _).mono ?_; rintro e w' ⟨rfl,rfl⟩; rw [HP.out])
        go_round
        case rel=>exact ⟨k + 1,by omega,by go_num,by rw [allB_take _ _ _ hlt,HA.out,HP.out]; rfl⟩
        case measure=>simp [intOf]; omega
    · go_wp2
      go_ret
      exact ⟨ret_bool (allB_full _ _ _ hlt HA.out).symm,rfl⟩
theorem word_no {l : List UInt8} (h : allB ltr l = false) : word l = false:=by simp [word,h]
theorem word_yes {l : List UInt8} (h : allB ltr l = true) : word l = (decide (0 < l.length) && decide (l.length ≤ 4)):=by simp [word,h]
theorem body_no {l : List UInt8} (h : allB ltrFig l = false) : body l = false:=by simp [body,h]
theorem body_yes {l : List UInt8} (h : allB ltrFig l = true) : body l = decide (l.length ≤ 12):=by simp [body,h]
theorem body_long {l : List UInt8} (h : 12 < l.length) : body l = false:=by simp [body]; omega
theorem body_all {l : List UInt8} (h' : l.length ≤ 12) : body l = allB ltrFig l:=by
  have b : decide (l.length ≤ 12) = true:=by simp; omega
  simp only [body,b,Bool.and_true]
theorem word_end1 (s : ByteArray) (h : allB ltr s.data.toList = true) (h0 : 0 < s.size) : decide ((s.size : Int) ≤ 4) = word s.data.toList:=by
  have hl : s.data.toList.length = s.size:=by simp
  rw [word_yes h,hl,Bool.eq_iff_iff]; simp; omega
theorem word_end0 (s : ByteArray) (h0 : ¬ 0 < s.size) : false = word s.data.toList:=by
  have hl : s.data.toList.length = s.size:=by simp
  exact (word_short (by omega)).symm
theorem body_end (s : ByteArray) (h : allB ltrFig s.data.toList = true) : decide ((s.size : Int) ≤ 12) = body s.data.toList:=by
  have hl : s.data.toList.length = s.size:=by simp
  rw [body_yes h,hl,Bool.eq_iff_iff]; simp; omega
set_option maxHeartbeats 400000 in
theorem specWord (s : ByteArray) (w : World) (hs : s.size ≤ maxLen) :
    Calls Tryz.prog 144 #[.string s] w fun e w'=>e = .returned (.bool (word s.data.toList)) ∧ w' = w:=by
  unfold maxLen at hs
  go_enter Tryz.func144,Tryz.ntmps144
  go_wp2
  go_loop [3] (fun i=>∃ k : Nat,k ≤ s.size ∧ i = .int .i64 k ∧ allB ltr (s.data.toList.take k) = true) (fun i=>s.size - (intOf i).toNat)
  case atStart=>exact ⟨0,Nat.zero_le _,rfl,rfl⟩
  case round =>
    obtain ⟨k,hk,rfl,ha⟩:=hrel
    have HA : Hid (allB ltr (s.data.toList.take k) = true):=ha
    clear ha
    by_cases hlt : k < s.size
    · by_cases h1 : 97 ≤ (s[k].toNat : Int)
      · by_cases h2 : (s[k].toNat : Int) ≤ 122
        · go_wp2
          go_round
          case rel=>exact ⟨k + 1,by omega,by go_num,by rw [allB_take _ _ _ hlt,HA.out,ltr_yes h1 h2]; rfl⟩
          case measure=>simp [intOf]; omega
        · go_wp2
          go_ret
          exact ⟨ret_bool (word_no (allB_no _ _ _ hlt (ltr_hi (by omega)))).symm,rfl⟩
      · go_wp2
        go_ret
        exact ⟨ret_bool (word_no (allB_no _ _ _ hlt (ltr_lo (by omega)))).symm,rfl⟩
    · by_cases h0 : 0 < s.size
      · go_wp2
        go_ret
        exact ⟨ret_bool (word_end1 s (allB_full _ _ _ hlt HA.out) h0),rfl⟩
      · go_wp2
        go_ret
        exact ⟨ret_bool (word_end0 s h0),rfl⟩
theorem lf_ltr {c : Int} (h1 : 97 ≤ c) (h2 : c ≤ 122) : ltrFig c = true:=by simp [ltrFig,ltr_yes h1 h2]
theorem lf_fig {c : Int} (h1 : 48 ≤ c) (h2 : c ≤ 57) : ltrFig c = true:=by simp [ltrFig,fig_yes h1 h2]
theorem lf_no {c : Int} (h : ¬ 97 ≤ c ∨ ¬ c ≤ 122) (h' : ¬ 48 ≤ c ∨ ¬ c ≤ 57) : ltrFig c = false:=by
  rcases h with h | h <;> rcases h' with h' | h' <;> simp [ltrFig,ltr,fig,h,h']
set_option maxHeartbeats 800000 in
theorem specBody (s : ByteArray) (w : World) (hs : s.size ≤ maxLen) :
    Calls Tryz.prog 145 #[.string s] w fun e w'=>e = .returned (.bool (body s.data.toList)) ∧ w' = w:=by
  unfold maxLen at hs
  go_enter Tryz.func145,Tryz.ntmps145
  go_wp2
  go_loop [3] (fun i=>∃ k : Nat,k ≤ s.size ∧ i = .int .i64 k ∧ allB ltrFig (s.data.toList.take k) = true) (fun i=>s.size - (intOf i).toNat)
  case atStart=>exact ⟨0,Nat.zero_le _,rfl,rfl⟩
  case round =>
    obtain ⟨k,hk,rfl,ha⟩:=hrel
    have HA : Hid (allB ltrFig (s.data.toList.take k) = true):=ha
    clear ha
    by_cases hlt : k < s.size
    · by_cases h1 : 97 ≤ (s[k].toNat : Int)
      · by_cases h2 : (s[k].toNat : Int) ≤ 122
        · go_wp2
          go_round
          case rel=>exact ⟨k + 1,by omega,by go_num,by rw [allB_take _ _ _ hlt,HA.out,lf_ltr h1 h2]; rfl⟩
          case measure=>simp [intOf]; omega
        · have h3 : 48 ≤ (s[k].toNat : Int):=by omega
          have h4 : ¬ (s[k].toNat : Int) ≤ 57:=by omega
          go_wp2
          go_ret
          exact ⟨ret_bool (body_no (allB_no _ _ _ hlt (lf_no (.inr (by omega)) (.inr (by omega))))).symm,rfl⟩
      · by_cases h3 : 48 ≤ (s[k].toNat : Int)
        · by_cases h4 : (s[k].toNat : Int) ≤ 57
          · go_wp2
            go_round
            case rel=>exact ⟨k + 1,by omega,by go_num,by rw [allB_take _ _ _ hlt,HA.out,lf_fig h3 h4]; rfl⟩
            case measure=>simp [intOf]; omega
          · go_wp2
            go_ret
            exact ⟨ret_bool (body_no (allB_no _ _ _ hlt (lf_no (.inl (by omega)) (.inr (by omega))))).symm,rfl⟩
        · go_wp2
          go_ret
          exact ⟨ret_bool (body_no (allB_no _ _ _ hlt (lf_no (.inl (by omega)) (.inl (by omega))))).symm,rfl⟩
    · go_wp2
      go_ret
      exact ⟨ret_bool (body_end s (allB_full _ _ _ hlt HA.out)),rfl⟩
set_option maxHeartbeats 800000 in
theorem implBody (s : ByteArray) (w : World) (hs : s.size ≤ maxLen) :
    Calls Tryz.prog 242 #[.string s] w fun e w'=>e = .returned (.bool (body s.data.toList)) ∧ w' = w:=by
  unfold maxLen at hs
  have hl : s.data.toList.length = s.size:=by simp
  by_cases h4 : 12 < s.size
  · rw [body_long (by omega)]
    go_enter Tryz.func242,Tryz.ntmps242
    go_wp2
    go_ret
    exact ⟨rfl,rfl⟩
  rw [body_all (by omega)]
  clear hl
  go_enter Tryz.func242,Tryz.ntmps242
  go_wp2
  go_loop [9] (fun i=>∃ k : Nat,k ≤ s.size ∧ i = .int .i64 k ∧ allB ltrFig (s.data.toList.take k) = true) (fun i=>s.size - (intOf i).toNat)
  case atStart=>exact ⟨0,Nat.zero_le _,rfl,rfl⟩
  case round =>
    obtain ⟨k,hk,rfl,ha⟩:=hrel
    have HA : Hid (allB ltrFig (s.data.toList.take k) = true):=ha
    clear ha
    by_cases hlt : k < s.size
    · cases hp : ltr s[k].toNat
      · have HP : Hid (ltr s[k].toNat = false):=hp
        clear hp
        cases hf : fig s[k].toNat
        · have HF : Hid (fig s[k].toNat = false):=hf
          clear hf
          go_wp2_with (first | (go_at_call 247; refine (isLetter_any _ _).mono ?_; rintro e w' ⟨rfl,rfl⟩; rw [HP.out]) | (go_at_call 248; refine (isFigure_any _ _).mono ?_; rintro e w' ⟨rfl,rfl⟩; rw [HF.out]))
          go_ret
          exact ⟨ret_bool (allB_no _ _ _ hlt (by simp [ltrFig,HP.out,HF.out])).symm,rfl⟩
        · have HF : Hid (fig s[k].toNat = true):=hf
          clear hf
          go_wp2_with (first | (go_at_call 247; refine (isLetter_any _ _).mono ?_; rintro e w' ⟨rfl,rfl⟩; rw [HP.out]) | (go_at_call 248; refine (isFigure_any _ _).mono ?_; rintro e w' ⟨rfl,rfl⟩; rw [HF.out]))
          go_round
          case rel=>exact ⟨k + 1,by omega,by go_num,by rw [allB_take _ _ _ hlt,HA.out]; simp [ltrFig,HF.out]⟩
          case measure=>simp [intOf]; omega
      · have HP : Hid (ltr s[k].toNat = true):=hp
        clear hp
        go_wp2_with (go_at_call 247; refine (isLetter_any _ _).mono ?_; rintro e w' ⟨rfl,rfl⟩; rw [HP.out])
        go_round
        case rel=>exact ⟨k + 1,by omega,by go_num,by rw [allB_take _ _ _ hlt,HA.out]; simp [ltrFig,HP.out]⟩
        case measure=>simp [intOf]; omega
    · go_wp2
      go_ret
      exact ⟨ret_bool (allB_full _ _ _ hlt HA.out).symm,rfl⟩
end
section
open Go.RowKit
structure LEnt where
  name : ByteArray
  id : Int
structure LObj where
  kind : Int
  ver : Int
  text : ByteArray
  kids : List LEnt
set_option maxHeartbeats 400000 in
theorem szEnt_any (s : ByteArray) (i left : Int) (w : World) (h0 : 0 ≤ left) (h1 : left ≤ 1048576) (hs : s.size ≤ maxLen) :
    Calls Tryz.prog 239 #[.agg #[.string s,.int .i64 i],.int .i64 left] w fun e w'=>(∃ r : Int,e = .returned (.int .i64 r) ∧ (r = -1 ∨ (0 ≤ r ∧ r = left - s.size))) ∧ Below w.heap.size w w':=by
  unfold maxLen at hs
  by_cases h : left - s.size < 0
  · go_enter Tryz.func239,Tryz.ntmps239
    go_wp2
    go_ret
    exact ⟨⟨-1,rfl,.inl rfl⟩,(Below.refl _ _).alloc (Nat.le_refl _) _⟩
  · go_enter Tryz.func239,Tryz.ntmps239
    go_wp2
    go_ret
    exact ⟨⟨left - s.size,rfl,.inr ⟨by omega,rfl⟩⟩,(Below.refl _ _).alloc (Nat.le_refl _) _⟩
theorem eqEnt_same (s : ByteArray) (i : Int) (w : World) :
    Calls Tryz.prog 222 #[.agg #[.string s,.int .i64 i],.agg #[.string s,.int .i64 i]] w fun e w'=>e = .returned (.bool true) ∧ Below w.heap.size w w':=by
  go_enter Tryz.func222,Tryz.ntmps222
  go_wp2
  go_ret
  exact ⟨by simp,((Below.refl _ _).alloc (Nat.le_refl _) _).alloc (by simp) _⟩
theorem toEnt_any (s : ByteArray) (i : Int) (w : World) :
    Calls Tryz.prog 240 #[.agg #[.string s,.int .i64 i]] w fun e w'=>e = .returned (.agg #[.string s,.int .i64 i]) ∧ Below w.heap.size w w':=by
  go_enter Tryz.func240,Tryz.ntmps240
  go_wp2
  exact bodyPost_ret (v:=.agg #[.string s,.int .i64 i]) (by simp [results,Tryz.results240,go_sem]) rfl ⟨rfl,by
    repeat (first | exact Below.refl _ _ | refine Below.setCell ?_ (by simp <;> omega) _ | refine Below.alloc ?_ (by simp <;> omega) _)⟩
structure EntsAt (w : World) (L U : Nat) (a : Option Addr) (n : Nat) (es : List LEnt) : Prop where
  len : n = es.length
  bd : n ≤ maxLen
  at_ : n ≠ 0 → ∃ b off,a = some ⟨b,off,none⟩ ∧ L ≤ b ∧ b < U ∧ ∀ i,i < n → ∃ e,es[i]? = some e ∧ e.name.size ≤ maxLen ∧ w.cell? ⟨b,off + i * 2,none⟩ = some (.string e.name) ∧ w.cell? ⟨b,off + i * 2 + 1,none⟩ = some (.int .i64 e.id)
def tot (es : List LEnt) : Nat:=(es.map fun e=>e.name.size).sum
theorem tot_take {es : List LEnt} {j : Nat} {e : LEnt} (h : es[j]? = some e) : tot (es.take (j + 1)) = tot (es.take j) + e.name.size:=by
  have hj : j < es.length:=(List.getElem?_eq_some_iff.1 h).1
  rw [List.take_succ_eq_append_getElem hj]
  have : es[j] = e:=(List.getElem?_eq_some_iff.1 h).2
  simp [tot,this]
set_option maxHeartbeats 400000 in
theorem szEntS_any (a : Option Addr) (n c : Nat) (es : List LEnt) (L U : Nat) (left : Int) (w : World) (h0 : 0 ≤ left) (h1 : left ≤ 1048576) (hU : U ≤ w.heap.size) (H : EntsAt w L U a n es) :
    Calls Tryz.prog 223 #[.slice a n c,.int .i64 left] w fun e w'=>(∃ r : Int,e = .returned (.int .i64 r) ∧ (r = -1 ∨ (0 ≤ r ∧ r = left - n - tot es))) ∧ Below w.heap.size w w':=by
  have hbd:=H.bd
  unfold maxLen at hbd
  by_cases h : left - n < 0
  · go_enter Tryz.func223,Tryz.ntmps223
    go_wp2
    go_ret
    exact ⟨⟨-1,rfl,.inl rfl⟩,Below.refl _ _⟩
  · go_enter Tryz.func223,Tryz.ntmps223
    go_wp2
    go_loopg [1,5] n (fun k l i wr=>∃ j : Nat,j ≤ n ∧ Hid (k = n - j) ∧ i = .int .i64 j ∧ (∃ r : Int,l = .int .i64 r ∧ 0 ≤ r ∧ r ≤ 1048576 ∧ Hid (r = left - n - tot (es.take j))) ∧ Below w.heap.size w wr)
    case atStart=>exact ⟨0,Nat.zero_le _,by show _ = _; omega,rfl,⟨_,rfl,by omega,by omega,by show _ = _; simp [tot]⟩,Below.refl _ _⟩
    case round =>
      obtain ⟨j,hj,hk,rfl,⟨r,rfl,hr0,hr1,hr⟩,hb⟩:=hrel
      by_cases hlt : j < n
      · obtain ⟨b,off,ha,hL,hbU,hc⟩:=H.at_ (by omega)
        subst ha
        obtain ⟨e,he,hsz,hc0,hc1⟩:=hc j hlt
        rw [← hb.cell (by simp; omega)] at hc0 hc1
        have HE : Hid (es[j]? = some e):=he
        clear he hc
        go_wp2_with fail
        refine (szEnt_any _ _ _ _ hr0 hr1 hsz).mono ?_
        rintro x w1 ⟨⟨r1,rfl,hr1'⟩,hb1⟩
        have HR : Hid (r1 = -1 ∨ 0 ≤ r1 ∧ r1 = r - e.name.size):=hr1'
        clear hr1'
        by_cases hneg : r1 < 0
        · go_wp2_with fail
          go_ret
          exact ⟨⟨-1,rfl,.inl rfl⟩,hb.trans (hb1.mono hb.size)⟩
        · go_wp2_with fail
          go_roundg (n - (j + 1))
          case measure=>have:=hk.out; omega
          case rel =>
            have:=HR.out
            have h3:=tot_take HE.out
            have h4:=hr.out
            exact ⟨j + 1,by omega,rfl,by go_num,⟨r1,rfl,by omega,by omega,by show _ = _; omega⟩,hb.trans (hb1.mono hb.size)⟩
      · go_wp2_with fail
        go_ret
        have h4:=hr.out
        rw [List.take_of_length_le (by have:=H.len; omega)] at h4
        exact ⟨⟨r,rfl,.inr ⟨hr0,h4⟩⟩,hb⟩
theorem EntsAt.below {w w' : World} {L U B : Nat} {a : Option Addr} {n : Nat} {es : List LEnt} (h : EntsAt w L U a n es) (hb : Below B w w') (hU : U ≤ B) : EntsAt w' L U a n es :=
  ⟨h.len,h.bd,fun hn=>by
    obtain ⟨b,off,ha,hL,hbU,hc⟩:=h.at_ hn
    refine ⟨b,off,ha,hL,hbU,fun i hi=>?_⟩
    obtain ⟨e,he,hs,h0,h1⟩:=hc i hi
    exact ⟨e,he,hs,by rw [hb.cell (by simp; omega)]; exact h0,by rw [hb.cell (by simp; omega)]; exact h1⟩⟩
theorem EntsAt.wide {w : World} {L U L' U' : Nat} {a : Option Addr} {n : Nat} {es : List LEnt} (h : EntsAt w L U a n es) (hL' : L' ≤ L) (hU : U ≤ U') : EntsAt w L' U' a n es :=
  ⟨h.len,h.bd,fun hn=>by
    obtain ⟨b,off,ha,hL,hbU,hc⟩:=h.at_ hn
    exact ⟨b,off,ha,by omega,by omega,hc⟩⟩
theorem EntsAt.setCell {w : World} {L U : Nat} {a : Option Addr} {n : Nat} {es : List LEnt} (h : EntsAt w L U a n es) (p : Addr) (v : Value) (hp : p.block < L) : EntsAt (w.setCell p v) L U a n es :=
  ⟨h.len,h.bd,fun hn=>by
    obtain ⟨b,off,ha,hL,hbU,hc⟩:=h.at_ hn
    refine ⟨b,off,ha,hL,hbU,fun i hi=>?_⟩
    obtain ⟨e,he,hs,h0,h1⟩:=hc i hi
    have hk:=Below.heap_setCell w p v b (by omega)
    exact ⟨e,he,hs,by rw [World.cell?_of_block (w:=w) hk]; exact h0,by rw [World.cell?_of_block (w:=w) hk]; exact h1⟩⟩
theorem bcell {W w1 : World} (hb : Below W.heap.size W w1) : (∀ b o,b < W.heap.size → w1.cell? ⟨b,o,none⟩ = W.cell? ⟨b,o,none⟩) ∧ (∀ b o,b < W.heap.size → w1.frozen? ⟨b,o,none⟩ = W.frozen? ⟨b,o,none⟩) :=
  ⟨fun b o h=>hb.cell (p:=⟨b,o,none⟩) h,fun b o h=>hb.frozen (p:=⟨b,o,none⟩) h⟩
theorem run_make_many (t e : TypeId) (zs : Array Value) (size bytes : Nat) (ht : Tryz.prog.underlying t = some (.slice e)) (hinfo : (Tryz.prog.info? e).map (fun i=>(i.zero.map (·.cells),i.size,i.bytes)) = some (some zs,size,bytes))
    (n : Nat) (hbytes : bytes * n ≤ 281474976710656) (h63 : n ≤ 9223372036854775807) (w : World) :
    (Instr.makeSlice t (.int .i64 (n : Int)) (.int .i64 (n : Int))).run Tryz.prog w = .ok (.slice (some ⟨w.heap.size,0,none⟩) n n) (w.alloc (.cells (madeCells zs (n * size)) e)):=by
  obtain ⟨i,hi,hq⟩:=Option.map_eq_some_iff.1 hinfo
  simp only [Prod.mk.injEq,Option.map_eq_some_iff] at hq
  obtain ⟨⟨z,hz,hzc⟩,hsz,hby⟩:=hq
  have hb' : (i.bytes : Int) * (n : Int) ≤ 281474976710656:=by
    rw [hby]
    have h : ((bytes * n : Nat) : Int) ≤ 281474976710656:=by omega
    rwa [Int.natCast_mul] at h
  have hr:=run_make (P:=Tryz.prog) w t e i z ht hi hz .i64 .i64 n n (by omega) (Int.le_refl _) hb' (by omega)
  simp only [Int.toNat_natCast,hsz,hzc] at hr
  exact hr
theorem rowIs_many (w : World) (zs : Array Value) (n : Nat) (t : TypeId) : ∃ f,(w.alloc (.cells (madeCells zs n) t)).rowIs w.heap.size t n f:=by
  refine ⟨fun i=>(madeCells zs n)[i]?.getD default,?_⟩
  have:=World.rowIs_alloc w (madeCells zs n) t (fun i=>(madeCells zs n)[i]?.getD default) (fun i hi=>by simp [hi])
  rwa [size_madeCells] at this
theorem info47 : (Tryz.prog.info? 247).map (fun i=>(i.zero.map (·.cells),i.size,i.bytes)) = some (some #[.string ByteArray.empty,.int .i64 0],2,24):=by kernel_rfl
theorem info34 : (Tryz.prog.info? 165).map (fun i=>(i.zero.map (·.cells),i.size,i.bytes)) = some (some #[.int .i64 0,.int .i64 0,.string ByteArray.empty,.slice none 0 0],4,56):=by kernel_rfl
set_option maxHeartbeats 400000 in
theorem toEntS_any (a : Option Addr) (n c : Nat) (es : List LEnt) (L U : Nat) (w : World) (hn : n ≤ 1048576) (hU : U ≤ w.heap.size) (H : EntsAt w L U a n es) :
    Calls Tryz.prog 224 #[.slice a n c] w fun e w'=>(∃ b,e = .returned (.slice (some ⟨b,0,none⟩) n n) ∧ EntsAt w' w.heap.size w'.heap.size (some ⟨b,0,none⟩) n es) ∧ Below w.heap.size w w':=by
  have hmk:=run_make_many 163 247 _ 2 24 Tryz.underlying163 info47 n (by omega) (by omega)
  obtain ⟨f0,hf0⟩:=rowIs_many w #[.string ByteArray.empty,.int .i64 0] (n * 2) 247
  have HF0 : Hid ((w.alloc (.cells (madeCells #[.string ByteArray.empty,.int .i64 0] (n * 2)) 247)).rowIs w.heap.size 247 (n * 2) f0):=hf0
  clear hf0
  go_enter Tryz.func224,Tryz.ntmps224
  go_wp2
  go_loopg [4] n (fun k i wr=>∃ j : Nat,j ≤ n ∧ Hid (k = n - j) ∧ i = .int .i64 j ∧ (∃ f,Hid (wr.rowIs w.heap.size 247 (n * 2) f ∧ ∀ i,i < j → ∃ e,es[i]? = some e ∧ f (i * 2) = .string e.name ∧ f (i * 2 + 1) = .int .i64 e.id)) ∧ Below w.heap.size w wr)
  case atStart=>exact ⟨0,Nat.zero_le _,by show _ = _; omega,rfl,⟨f0,HF0.out,fun i hi=>by omega⟩,(Below.refl _ _).alloc (Nat.le_refl _) _⟩
  case round =>
    obtain ⟨j,hj,hk,rfl,⟨f,hf⟩,hb⟩:=hrel
    by_cases hlt : j < n
    · obtain ⟨b,off,ha,hL,hbU,hc⟩:=H.at_ (by omega)
      subst ha
      obtain ⟨e,he,hsz,hc0,hc1⟩:=hc j hlt
      rw [← hb.cell (by simp; omega)] at hc0 hc1
      have HE : Hid (es[j]? = some e):=he
      clear he hc
      go_wp2_with fail
      refine (toEnt_any _ _ _).mono ?_
      rintro x w1 ⟨rfl,hb1⟩
      have hrow:=hf.out.1.of_block (hb1.block w.heap.size hf.out.1.lt)
      have g0:=hrow.cell (i:=j * 2) (by omega)
      have g1:=hrow.cell (i:=j * 2 + 1) (by omega)
      have z0:=hrow.frozen (j * 2)
      have z1:=hrow.frozen (j * 2 + 1)
      have HR : Hid (w1.rowIs w.heap.size 247 (n * 2) f):=hrow
      clear hrow
      go_wp2_with fail
      go_roundg (n - (j + 1))
      case measure=>have:=hk.out; omega
      case rel =>
        refine ⟨j + 1,by omega,rfl,by go_num,⟨_,(HR.out.set (j * 2) (.string e.name)).set (j * 2 + 1) (.int .i64 e.id),fun i hi=>?_⟩,((hb.trans (hb1.mono hb.size)).setCell (by simp) _).setCell (by simp) _⟩
        by_cases hij : i = j
        · subst hij
          exact ⟨e,HE.out,by simp,by simp⟩
        · obtain ⟨e',he',q0,q1⟩:=hf.out.2 i (by omega)
          refine ⟨e',he',?_,?_⟩
          · show (if i * 2 = j * 2 + 1 then _ else if i * 2 = j * 2 then _ else f (i * 2)) = _
            rw [if_neg (by omega),if_neg (by omega)]; exact q0
          · show (if i * 2 + 1 = j * 2 + 1 then _ else if i * 2 + 1 = j * 2 then _ else f (i * 2 + 1)) = _
            rw [if_neg (by omega),if_neg (by omega)]; exact q1
    · go_wp2_with fail
      go_ret
      refine ⟨⟨w.heap.size,rfl,H.len,H.bd,fun hn0=>⟨w.heap.size,0,rfl,Nat.le_refl _,hf.out.1.lt,fun i hi=>?_⟩⟩,hb⟩
      obtain ⟨e',he',q0,q1⟩:=hf.out.2 i (by omega)
      obtain ⟨b,off,ha,hL,hbU,hc⟩:=H.at_ hn0
      obtain ⟨e2,he2,hsz,_,_⟩:=hc i hi
      rw [he'] at he2
      cases he2
      exact ⟨e',he',hsz,by rw [← q0,Nat.zero_add]; exact hf.out.1.cell (by omega),by rw [← q1,Nat.zero_add]; exact hf.out.1.cell (by omega)⟩
structure ObjsAt (w : World) (L U : Nat) (a : Option Addr) (n : Nat) (os : List LObj) : Prop where
  len : n = os.length
  bd : n ≤ maxLen
  at_ : n ≠ 0 → ∃ b off,a = some ⟨b,off,none⟩ ∧ L ≤ b ∧ b < U ∧ ∀ i,i < n → ∃ o ka kn kc,os[i]? = some o ∧ o.text.size ≤ maxLen ∧ w.cell? ⟨b,off + i * 4,none⟩ = some (.int .i64 o.kind) ∧ w.cell? ⟨b,off + i * 4 + 1,none⟩ = some (.int .i64 o.ver) ∧ w.cell? ⟨b,off + i * 4 + 2,none⟩ = some (.string o.text) ∧ w.cell? ⟨b,off + i * 4 + 3,none⟩ = some (.slice ka kn kc) ∧ EntsAt w L U ka kn o.kids
theorem ObjsAt.below {w w' : World} {L U B : Nat} {a : Option Addr} {n : Nat} {os : List LObj} (h : ObjsAt w L U a n os) (hb : Below B w w') (hU : U ≤ B) : ObjsAt w' L U a n os :=
  ⟨h.len,h.bd,fun hn=>by
    obtain ⟨b,off,ha,hL,hbU,hc⟩:=h.at_ hn
    refine ⟨b,off,ha,hL,hbU,fun i hi=>?_⟩
    obtain ⟨o,ka,kn,kc,he,hs,h0,h1,h2,h3,hk⟩:=hc i hi
    exact ⟨o,ka,kn,kc,he,hs,by rw [hb.cell (by simp; omega)]; exact h0,by rw [hb.cell (by simp; omega)]; exact h1,by rw [hb.cell (by simp; omega)]; exact h2,by rw [hb.cell (by simp; omega)]; exact h3,hk.below hb hU⟩⟩
theorem ObjsAt.wide {w : World} {L U L' U' : Nat} {a : Option Addr} {n : Nat} {os : List LObj} (h : ObjsAt w L U a n os) (hL' : L' ≤ L) (hU : U ≤ U') : ObjsAt w L' U' a n os :=
  ⟨h.len,h.bd,fun hn=>by
    obtain ⟨b,off,ha,hL,hbU,hc⟩:=h.at_ hn
    refine ⟨b,off,ha,by omega,by omega,fun i hi=>?_⟩
    obtain ⟨o,ka,kn,kc,he,hs,h0,h1,h2,h3,hk⟩:=hc i hi
    exact ⟨o,ka,kn,kc,he,hs,h0,h1,h2,h3,hk.wide hL' hU⟩⟩
theorem ObjsAt.setCell {w : World} {L U : Nat} {a : Option Addr} {n : Nat} {os : List LObj} (h : ObjsAt w L U a n os) (p : Addr) (v : Value) (hp : p.block < L) : ObjsAt (w.setCell p v) L U a n os :=
  ⟨h.len,h.bd,fun hn=>by
    obtain ⟨b,off,ha,hL,hbU,hc⟩:=h.at_ hn
    refine ⟨b,off,ha,hL,hbU,fun i hi=>?_⟩
    obtain ⟨o,ka,kn,kc,he,hs,h0,h1,h2,h3,hk⟩:=hc i hi
    have hk':=Below.heap_setCell w p v b (by omega)
    exact ⟨o,ka,kn,kc,he,hs,by rw [World.cell?_of_block (w:=w) hk']; exact h0,by rw [World.cell?_of_block (w:=w) hk']; exact h1,by rw [World.cell?_of_block (w:=w) hk']; exact h2,by rw [World.cell?_of_block (w:=w) hk']; exact h3,hk.setCell p v hp⟩⟩
def totO (o : LObj) : Nat:=o.text.size + o.kids.length + tot o.kids
def totT (os : List LObj) : Nat:=(os.map totO).sum
theorem totT_take {os : List LObj} {j : Nat} {o : LObj} (h : os[j]? = some o) : totT (os.take (j + 1)) = totT (os.take j) + totO o:=by
  have hj : j < os.length:=(List.getElem?_eq_some_iff.1 h).1
  rw [List.take_succ_eq_append_getElem hj]
  have : os[j] = o:=(List.getElem?_eq_some_iff.1 h).2
  simp [totT,this]
set_option maxHeartbeats 400000 in
theorem szObj_any (k v : Int) (s : ByteArray) (a : Option Addr) (n c : Nat) (es : List LEnt) (L U : Nat) (left : Int) (w : World) (h0 : 0 ≤ left) (h1 : left ≤ 1048576) (hs : s.size ≤ maxLen) (hU : U ≤ w.heap.size) (H : EntsAt w L U a n es) :
    Calls Tryz.prog 193 #[.agg #[.int .i64 k,.int .i64 v,.string s,.slice a n c],.int .i64 left] w fun e w'=>(∃ r : Int,e = .returned (.int .i64 r) ∧ (r = -1 ∨ (0 ≤ r ∧ r = left - s.size - n - tot es))) ∧ Below w.heap.size w w':=by
  unfold maxLen at hs
  by_cases h : left - s.size < 0
  · go_enter Tryz.func193,Tryz.ntmps193
    go_wp2
    go_ret
    exact ⟨⟨-1,rfl,.inl rfl⟩,(Below.refl _ _).alloc (Nat.le_refl _) _⟩
  · go_enter Tryz.func193,Tryz.ntmps193
    go_wp2_with fail
    refine (szEntS_any _ _ _ _ L U _ _ (by omega) (by omega) (by simp; omega) (H.below ((Below.refl _ _).alloc (Nat.le_refl _) _) hU)).mono ?_
    rintro x w1 ⟨⟨r,rfl,hr⟩,hb⟩
    have HR : Hid (r = -1 ∨ 0 ≤ r ∧ r = left - s.size - n - tot es):=hr
    clear hr
    have hb' : Below w.heap.size w w1:=((Below.refl _ _).alloc (Nat.le_refl _) _).trans (hb.mono (by simp))
    by_cases hneg : r < 0
    · go_wp2_with fail
      go_ret
      exact ⟨⟨-1,rfl,.inl rfl⟩,hb'⟩
    · go_wp2_with fail
      go_ret
      exact ⟨⟨r,rfl,HR.out⟩,hb'⟩
set_option maxHeartbeats 400000 in
theorem szObjS_any (a : Option Addr) (n c : Nat) (os : List LObj) (L U : Nat) (left : Int) (w : World) (h0 : 0 ≤ left) (h1 : left ≤ 1048576) (hU : U ≤ w.heap.size) (H : ObjsAt w L U a n os) :
    Calls Tryz.prog 138 #[.slice a n c,.int .i64 left] w fun e w'=>(∃ r : Int,e = .returned (.int .i64 r) ∧ (r = -1 ∨ (0 ≤ r ∧ r = left - n - totT os))) ∧ Below w.heap.size w w':=by
  have hbd:=H.bd
  unfold maxLen at hbd
  by_cases h : left - n < 0
  · go_enter Tryz.func138,Tryz.ntmps138
    go_wp2
    go_ret
    exact ⟨⟨-1,rfl,.inl rfl⟩,Below.refl _ _⟩
  · go_enter Tryz.func138,Tryz.ntmps138
    go_wp2
    go_loopg [1,5] n (fun k l i wr=>∃ j : Nat,j ≤ n ∧ Hid (k = n - j) ∧ i = .int .i64 j ∧ (∃ r : Int,l = .int .i64 r ∧ 0 ≤ r ∧ r ≤ 1048576 ∧ Hid (r = left - n - totT (os.take j))) ∧ Below w.heap.size w wr)
    case atStart=>exact ⟨0,Nat.zero_le _,by show _ = _; omega,rfl,⟨_,rfl,by omega,by omega,by show _ = _; simp [totT]⟩,Below.refl _ _⟩
    case round =>
      obtain ⟨j,hj,hk,rfl,⟨r,rfl,hr0,hr1,hr⟩,hb⟩:=hrel
      by_cases hlt : j < n
      · obtain ⟨b,off,ha,hL,hbU,hc⟩:=H.at_ (by omega)
        subst ha
        obtain ⟨o,ka,kn,kc,he,hsz,hc0,hc1,hc2,hc3,hks⟩:=hc j hlt
        rw [← hb.cell (by simp; omega)] at hc0 hc1 hc2 hc3
        have HE : Hid (os[j]? = some o):=he
        clear he hc
        go_wp2_with fail
        refine (szObj_any _ _ _ _ _ _ _ L U _ _ hr0 hr1 hsz (by have:=hb.size; omega) (hks.below hb hU)).mono ?_
        rintro x w1 ⟨⟨r1,rfl,hr1'⟩,hb1⟩
        have hkl:=hks.len
        have HR : Hid (r1 = -1 ∨ 0 ≤ r1 ∧ r1 = r - o.text.size - o.kids.length - tot o.kids):=by rw [← hkl]; exact hr1'
        clear hr1' hkl hks
        by_cases hneg : r1 < 0
        · go_wp2_with fail
          go_ret
          exact ⟨⟨-1,rfl,.inl rfl⟩,hb.trans (hb1.mono hb.size)⟩
        · go_wp2_with fail
          go_roundg (n - (j + 1))
          case measure=>have:=hk.out; omega
          case rel =>
            have:=HR.out
            have h3:=totT_take HE.out
            have h4:=hr.out
            unfold totO at h3
            exact ⟨j + 1,by omega,rfl,by go_num,⟨r1,rfl,by omega,by omega,by show _ = _; omega⟩,hb.trans (hb1.mono hb.size)⟩
      · go_wp2_with fail
        go_ret
        have h4:=hr.out
        rw [List.take_of_length_le (by have:=H.len; omega)] at h4
        exact ⟨⟨r,rfl,.inr ⟨hr0,h4⟩⟩,hb⟩
theorem szTree_any (a : Option Addr) (n c : Nat) (os : List LObj) (L U : Nat) (left : Int) (w : World) (h0 : 0 ≤ left) (h1 : left ≤ 1048576) (hU : U ≤ w.heap.size) (H : ObjsAt w L U a n os) :
    Calls Tryz.prog 75 #[.agg #[.slice a n c],.int .i64 left] w fun e w'=>(∃ r : Int,e = .returned (.int .i64 r) ∧ (r = -1 ∨ (0 ≤ r ∧ r = left - n - totT os))) ∧ Below w.heap.size w w':=by
  go_enter Tryz.func75,Tryz.ntmps75
  go_wp2_with fail
  refine (szObjS_any _ _ _ _ L U _ _ h0 h1 (by simp; omega) (H.below ((Below.refl _ _).alloc (Nat.le_refl _) _) hU)).mono ?_
  rintro x w1 ⟨⟨r,rfl,hr⟩,hb⟩
  have HR : Hid (r = -1 ∨ 0 ≤ r ∧ r = left - n - totT os):=hr
  clear hr
  have hb' : Below w.heap.size w w1:=((Below.refl _ _).alloc (Nat.le_refl _) _).trans (hb.mono (by simp))
  by_cases hneg : r < 0
  · go_wp2_with fail
    go_ret
    exact ⟨⟨-1,rfl,.inl rfl⟩,hb'⟩
  · go_wp2_with fail
    go_ret
    exact ⟨⟨r,rfl,HR.out⟩,hb'⟩
set_option maxHeartbeats 400000 in
theorem toObj_any (k v : Int) (s : ByteArray) (a : Option Addr) (n c : Nat) (es : List LEnt) (L U : Nat) (w : World) (hn : n ≤ 1048576) (hU : U ≤ w.heap.size) (H : EntsAt w L U a n es) :
    Calls Tryz.prog 196 #[.agg #[.int .i64 k,.int .i64 v,.string s,.slice a n c]] w fun e w'=>(∃ b,e = .returned (.agg #[.int .i64 k,.int .i64 v,.string s,.slice (some ⟨b,0,none⟩) n n]) ∧ EntsAt w' w.heap.size w'.heap.size (some ⟨b,0,none⟩) n es) ∧ Below w.heap.size w w':=by
  go_enter Tryz.func196,Tryz.ntmps196
  go_wp2_with fail
  refine (toEntS_any _ _ _ _ L U _ hn (by simp; omega) (H.below ((((Below.refl _ _).alloc (Nat.le_refl _) _).alloc (by simp) _).alloc (by simp; omega) _) hU)).mono ?_
  rintro x w1 ⟨⟨b,rfl,hk⟩,hb⟩
  obtain ⟨hc,hf⟩:=bcell hb
  have hz : w.heap.size + 3 ≤ w1.heap.size:=by have:=hb.size; simp at this; omega
  have hb0 : Below w.heap.size w w1:=((((Below.refl _ _).alloc (Nat.le_refl _) _).alloc (by simp) _).alloc (by simp; omega) _).trans (hb.mono (by simp; omega))
  go_wp2_with fail
  refine bodyPost_ret (v:=.agg #[.int .i64 k,.int .i64 v,.string s,.slice (some ⟨b,0,none⟩) n n]) (by simp [results,Tryz.results196,go_sem,hc]) rfl ⟨⟨b,rfl,?_⟩,?_⟩
  · refine EntsAt.wide (L:=w.heap.size + 3) (U:=w1.heap.size) ?_ (by omega) (by simp)
    have hk' : EntsAt w1 (w.heap.size + 3) w1.heap.size (some ⟨b,0,none⟩) n es:=hk.wide (by simp) (Nat.le_refl _)
    repeat (first | exact hk' | refine EntsAt.setCell ?_ _ _ (by simp <;> omega))
  · repeat (first | exact hb0 | refine Below.setCell ?_ (by simp <;> omega) _)
def Sizes (os : List LObj) (M : Nat) : Prop:=∀ o ∈ os,o.kids.length ≤ M
set_option maxHeartbeats 800000 in
theorem toObjS_any (a : Option Addr) (n c : Nat) (os : List LObj) (L U : Nat) (w : World) (hn : n ≤ 1048576) (hS : Sizes os 1048576) (hU : U ≤ w.heap.size) (H : ObjsAt w L U a n os) :
    Calls Tryz.prog 147 #[.slice a n c] w fun e w'=>(∃ b,e = .returned (.slice (some ⟨b,0,none⟩) n n) ∧ ObjsAt w' w.heap.size w'.heap.size (some ⟨b,0,none⟩) n os) ∧ Below w.heap.size w w':=by
  have hmk:=run_make_many 24 165 _ 4 56 Tryz.underlying24 info34 n (by omega) (by omega)
  obtain ⟨f0,hf0⟩:=rowIs_many w #[.int .i64 0,.int .i64 0,.string ByteArray.empty,.slice none 0 0] (n * 4) 165
  have HF0 : Hid ((w.alloc (.cells (madeCells #[.int .i64 0,.int .i64 0,.string ByteArray.empty,.slice none 0 0] (n * 4)) 165)).rowIs w.heap.size 165 (n * 4) f0):=hf0
  clear hf0
  go_enter Tryz.func147,Tryz.ntmps147
  go_wp2
  go_loopg [4] n (fun k i wr=>∃ j : Nat,j ≤ n ∧ Hid (k = n - j) ∧ i = .int .i64 j ∧ (∃ f,Hid (wr.rowIs w.heap.size 165 (n * 4) f ∧ ∀ i,i < j → ∃ o ka kn kc,os[i]? = some o ∧ f (i * 4) = .int .i64 o.kind ∧ f (i * 4 + 1) = .int .i64 o.ver ∧ f (i * 4 + 2) = .string o.text ∧ f (i * 4 + 3) = .slice ka kn kc ∧ EntsAt wr (w.heap.size + 1) wr.heap.size ka kn o.kids)) ∧ Below w.heap.size w wr)
  case atStart=>exact ⟨0,Nat.zero_le _,by show _ = _; omega,rfl,⟨f0,HF0.out,fun i hi=>by omega⟩,(Below.refl _ _).alloc (Nat.le_refl _) _⟩
  case round =>
    obtain ⟨j,hj,hk,rfl,⟨f,hf⟩,hb⟩:=hrel
    by_cases hlt : j < n
    · obtain ⟨b,off,ha,hL,hbU,hc⟩:=H.at_ (by omega)
      subst ha
      obtain ⟨o,ka,kn,kc,he,hsz,hc0,hc1,hc2,hc3,hks⟩:=hc j hlt
      have hkn : kn ≤ 1048576:=by rw [hks.len]; exact hS o (List.mem_of_getElem? he)
      rw [← hb.cell (by simp; omega)] at hc0 hc1 hc2 hc3
      have HE : Hid (os[j]? = some o):=he
      clear he hc
      have hrl:=hf.out.1.lt
      go_wp2_with fail
      refine (toObj_any _ _ _ _ _ _ _ L U _ hkn (by have:=hb.size; omega) (hks.below hb hU)).mono ?_
      rintro x w1 ⟨⟨kb,rfl,hke⟩,hb1⟩
      have hrow:=hf.out.1.of_block (hb1.block w.heap.size hf.out.1.lt)
      have g0:=hrow.cell (i:=j * 4) (by omega)
      have g1:=hrow.cell (i:=j * 4 + 1) (by omega)
      have g2:=hrow.cell (i:=j * 4 + 2) (by omega)
      have g3:=hrow.cell (i:=j * 4 + 3) (by omega)
      have z0:=hrow.frozen (j * 4)
      have z1:=hrow.frozen (j * 4 + 1)
      have z2:=hrow.frozen (j * 4 + 2)
      have z3:=hrow.frozen (j * 4 + 3)
      have HR : Hid (w1.rowIs w.heap.size 165 (n * 4) f):=hrow
      clear hrow
      go_wp2_with fail
      go_roundg (n - (j + 1))
      case measure=>have:=hk.out; omega
      case rel =>
        have hbs:=hb1.size
        refine ⟨j + 1,by omega,rfl,by go_num,⟨_,(((HR.out.set (j * 4) (.int .i64 o.kind)).set (j * 4 + 1) (.int .i64 o.ver)).set (j * 4 + 2) (.string o.text)).set (j * 4 + 3) (.slice (some ⟨kb,0,none⟩) kn kn),fun i hi=>?_⟩,((((hb.trans (hb1.mono hb.size)).setCell (by simp) _).setCell (by simp) _).setCell (by simp) _).setCell (by simp) _⟩
        by_cases hij : i = j
        · subst hij
          refine ⟨o,_,_,_,HE.out,by simp,by simp,by simp,by simp; exact ⟨rfl,rfl,rfl⟩,?_⟩
          refine EntsAt.wide (L:=wr.heap.size) (U:=w1.heap.size) ?_ (by omega) (by simp)
          repeat (first | exact hke | refine EntsAt.setCell ?_ _ _ (by simp <;> omega))
        · obtain ⟨o',ka',kn',kc',he',q0,q1,q2,q3,qk⟩:=hf.out.2 i (by omega)
          refine ⟨o',ka',kn',kc',he',?_,?_,?_,?_,?_⟩
          · rw [if_neg (by omega),if_neg (by omega),if_neg (by omega),if_neg (by omega)]; exact q0
          · rw [if_neg (by omega),if_neg (by omega),if_neg (by omega),if_neg (by omega)]; exact q1
          · rw [if_neg (by omega),if_neg (by omega),if_neg (by omega),if_neg (by omega)]; exact q2
          · rw [if_neg (by omega),if_neg (by omega),if_neg (by omega),if_neg (by omega)]; exact q3
          · refine EntsAt.wide (L:=w.heap.size + 1) (U:=wr.heap.size) ?_ (by omega) (by simp; omega)
            have qk':=qk.below hb1 (Nat.le_refl _)
            repeat (first | exact qk' | refine EntsAt.setCell ?_ _ _ (by simp))
    · go_wp2_with fail
      go_ret
      refine ⟨⟨w.heap.size,rfl,H.len,H.bd,fun hn0=>⟨w.heap.size,0,rfl,Nat.le_refl _,hf.out.1.lt,fun i hi=>?_⟩⟩,hb⟩
      obtain ⟨o',ka',kn',kc',he',q0,q1,q2,q3,qk⟩:=hf.out.2 i (by omega)
      obtain ⟨b,off,ha,hL,hbU,hc⟩:=H.at_ hn0
      obtain ⟨o2,_,_,_,he2,hsz,_⟩:=hc i hi
      rw [he'] at he2
      cases he2
      refine ⟨o',ka',kn',kc',he',hsz,?_,?_,?_,?_,qk.wide (by omega) (Nat.le_refl _)⟩
      · rw [← q0,Nat.zero_add]; exact hf.out.1.cell (by omega)
      · rw [← q1,Nat.zero_add]; exact hf.out.1.cell (by omega)
      · rw [← q2,Nat.zero_add]; exact hf.out.1.cell (by omega)
      · rw [← q3,Nat.zero_add]; exact hf.out.1.cell (by omega)
set_option maxHeartbeats 400000 in
theorem toTree_any (a : Option Addr) (n c : Nat) (os : List LObj) (L U : Nat) (w : World) (hn : n ≤ 1048576) (hS : Sizes os 1048576) (hU : U ≤ w.heap.size) (H : ObjsAt w L U a n os) :
    Calls Tryz.prog 82 #[.agg #[.slice a n c]] w fun e w'=>(∃ b,e = .returned (.agg #[.slice (some ⟨b,0,none⟩) n n]) ∧ ObjsAt w' w.heap.size w'.heap.size (some ⟨b,0,none⟩) n os) ∧ Below w.heap.size w w':=by
  go_enter Tryz.func82,Tryz.ntmps82
  go_wp2_with fail
  refine (toObjS_any _ _ _ _ L U _ hn hS (by simp; omega) (H.below ((((Below.refl _ _).alloc (Nat.le_refl _) _).alloc (by simp) _).alloc (by simp; omega) _) hU)).mono ?_
  rintro x w1 ⟨⟨b,rfl,hk⟩,hb⟩
  obtain ⟨hc,hf⟩:=bcell hb
  have hz : w.heap.size + 3 ≤ w1.heap.size:=by have:=hb.size; simp at this; omega
  have hb0 : Below w.heap.size w w1:=((((Below.refl _ _).alloc (Nat.le_refl _) _).alloc (by simp) _).alloc (by simp; omega) _).trans (hb.mono (by simp; omega))
  go_wp2_with fail
  refine bodyPost_ret (v:=.agg #[.slice (some ⟨b,0,none⟩) n n]) (by simp [results,Tryz.results82,go_sem,hc]) rfl ⟨⟨b,rfl,?_⟩,?_⟩
  · refine ObjsAt.wide (L:=w.heap.size + 3) (U:=w1.heap.size) ?_ (by omega) (by simp)
    have hk' : ObjsAt w1 (w.heap.size + 3) w1.heap.size (some ⟨b,0,none⟩) n os:=hk.wide (by simp) (Nat.le_refl _)
    repeat (first | exact hk' | refine ObjsAt.setCell ?_ _ _ (by simp <;> omega))
  · repeat (first | exact hb0 | refine Below.setCell ?_ (by simp <;> omega) _)
end
section
open Go.RowKit
set_option maxHeartbeats 400000 in
theorem eqEntS_same (a a' : Option Addr) (n c c' : Nat) (es : List LEnt) (L U L' U' : Nat) (w : World) (hU : U ≤ w.heap.size) (hU' : U' ≤ w.heap.size) (H : EntsAt w L U a n es) (H' : EntsAt w L' U' a' n es) :
    Calls Tryz.prog 187 #[.slice a n c,.slice a' n c'] w fun e w'=>e = .returned (.bool true) ∧ Below w.heap.size w w':=by
  have hbd:=H.bd
  unfold maxLen at hbd
  go_enter Tryz.func187,Tryz.ntmps187
  go_wp2
  go_loopg [5] n (fun k i wr=>∃ j : Nat,j ≤ n ∧ Hid (k = n - j) ∧ i = .int .i64 j ∧ Below w.heap.size w wr)
  case atStart=>exact ⟨0,Nat.zero_le _,by show _ = _; omega,rfl,Below.refl _ _⟩
  case round =>
    obtain ⟨j,hj,hk,rfl,hb⟩:=hrel
    by_cases hlt : j < n
    · obtain ⟨b,off,ha,hL,hbU,hc⟩:=H.at_ (by omega)
      obtain ⟨b',off',ha',hL',hbU',hc'⟩:=H'.at_ (by omega)
      subst ha ha'
      obtain ⟨e,he,hsz,hc0,hc1⟩:=hc j hlt
      obtain ⟨e2,he2,hsz2,hd0,hd1⟩:=hc' j hlt
      rw [he] at he2
      cases he2
      clear he hc hc'
      rw [← hb.cell (by simp; omega)] at hc0 hc1 hd0 hd1
      go_wp2_with fail
      go_region_with (go_at_call 222; refine (eqEnt_same _ _ _).mono ?_; rintro x w1 ⟨rfl,hb1⟩)
      all_goals
        go_wp2_with fail
        go_roundg (n - (j + 1))
        case measure=>have:=hk.out; omega
        case rel=>exact ⟨j + 1,by omega,rfl,by go_num,hb.trans (Below.trans (by repeat (first | exact Below.refl _ _ | refine Below.drew ?_)) (hb1.mono hb.size))⟩
    · go_wp2_with fail
      go_ret
      exact ⟨rfl,hb⟩
set_option maxHeartbeats 400000 in
theorem eqObj_same (k v : Int) (s : ByteArray) (a a' : Option Addr) (n c c' : Nat) (es : List LEnt) (L U L' U' : Nat) (w : World) (hU : U ≤ w.heap.size) (hU' : U' ≤ w.heap.size) (H : EntsAt w L U a n es) (H' : EntsAt w L' U' a' n es) :
    Calls Tryz.prog 121 #[.agg #[.int .i64 k,.int .i64 v,.string s,.slice a n c],.agg #[.int .i64 k,.int .i64 v,.string s,.slice a' n c']] w fun e w'=>e = .returned (.bool true) ∧ Below w.heap.size w w':=by
  have hB : ∀ o1 o2,Below w.heap.size w ((w.alloc o1).alloc o2):=fun o1 o2=>((Below.refl _ _).alloc (Nat.le_refl _) _).alloc (by simp) _
  go_enter Tryz.func121,Tryz.ntmps121
  go_wp2_with fail
  refine (eqEntS_same _ _ _ _ _ _ L U L' U' _ (by simp; omega) (by simp; omega) (H.below (hB _ _) hU) (H'.below (hB _ _) hU')).mono ?_
  rintro x w1 ⟨rfl,hb⟩
  go_wp2_with fail
  go_ret
  exact ⟨rfl,(hB _ _).trans (hb.mono (by simp; omega))⟩
set_option maxHeartbeats 800000 in
theorem eqObjS_same (a a' : Option Addr) (n c c' : Nat) (os : List LObj) (L U L' U' : Nat) (w : World) (hU : U ≤ w.heap.size) (hU' : U' ≤ w.heap.size) (H : ObjsAt w L U a n os) (H' : ObjsAt w L' U' a' n os) :
    Calls Tryz.prog 52 #[.slice a n c,.slice a' n c'] w fun e w'=>e = .returned (.bool true) ∧ Below w.heap.size w w':=by
  have hbd:=H.bd
  unfold maxLen at hbd
  go_enter Tryz.func52,Tryz.ntmps52
  go_wp2
  go_loopg [5] n (fun k i wr=>∃ j : Nat,j ≤ n ∧ Hid (k = n - j) ∧ i = .int .i64 j ∧ Below w.heap.size w wr)
  case atStart=>exact ⟨0,Nat.zero_le _,by show _ = _; omega,rfl,Below.refl _ _⟩
  case round =>
    obtain ⟨j,hj,hk,rfl,hb⟩:=hrel
    by_cases hlt : j < n
    · obtain ⟨b,off,ha,hL,hbU,hc⟩:=H.at_ (by omega)
      obtain ⟨b',off',ha',hL',hbU',hc'⟩:=H'.at_ (by omega)
      subst ha ha'
      obtain ⟨o,ka,kn,kc,he,hsz,hc0,hc1,hc2,hc3,hke⟩:=hc j hlt
      obtain ⟨o2,ka',kn',kc',he2,hsz2,hd0,hd1,hd2,hd3,hke'⟩:=hc' j hlt
      rw [he] at he2
      cases he2
      have hkk : kn' = kn:=by rw [hke.len,hke'.len]
      subst hkk
      clear he hc hc'
      rw [← hb.cell (by simp; omega)] at hc0 hc1 hc2 hc3 hd0 hd1 hd2 hd3
      have hk1:=hke.below hb hU
      have hk2:=hke'.below hb hU'
      have hs1:=hb.size
      go_wp2_with fail
      go_region_with (go_at_call 121; refine (eqObj_same _ _ _ _ _ _ _ _ _ L U L' U' _ (by simp; omega) (by simp; omega) (hk1.below (by repeat (first | exact Below.refl _ _ | refine Below.drew ?_)) (Nat.le_trans hU hs1)) (hk2.below (by repeat (first | exact Below.refl _ _ | refine Below.drew ?_)) (Nat.le_trans hU' hs1))).mono ?_; rintro x w1 ⟨rfl,hb1⟩)
      all_goals
        go_wp2_with fail
        go_roundg (n - (j + 1))
        case measure=>have:=hk.out; omega
        case rel=>exact ⟨j + 1,by omega,rfl,by go_num,hb.trans (Below.trans (by repeat (first | exact Below.refl _ _ | refine Below.drew ?_)) (hb1.mono hb.size))⟩
    · go_wp2_with fail
      go_ret
      exact ⟨rfl,hb⟩
theorem eqTree_same (a a' : Option Addr) (n c c' : Nat) (os : List LObj) (L U L' U' : Nat) (w : World) (hU : U ≤ w.heap.size) (hU' : U' ≤ w.heap.size) (H : ObjsAt w L U a n os) (H' : ObjsAt w L' U' a' n os) :
    Calls Tryz.prog 15 #[.agg #[.slice a n c],.agg #[.slice a' n c']] w fun e w'=>e = .returned (.bool true) ∧ Below w.heap.size w w':=by
  have hB : ∀ o1 o2,Below w.heap.size w ((w.alloc o1).alloc o2):=fun o1 o2=>((Below.refl _ _).alloc (Nat.le_refl _) _).alloc (by simp) _
  go_enter Tryz.func15,Tryz.ntmps15
  go_wp2_with fail
  refine (eqObjS_same _ _ _ _ _ _ L U L' U' _ (by simp; omega) (by simp; omega) (H.below (hB _ _) hU) (H'.below (hB _ _) hU')).mono ?_
  rintro x w1 ⟨rfl,hb⟩
  go_wp2_with fail
  go_ret
  exact ⟨rfl,(hB _ _).trans (hb.mono (by simp; omega))⟩
end
section
open Go.RowKit Go.ChangeShapes Go.WideShapes
theorem list_of {α : Type} {n : Nat} {p : Nat → α → Prop} (h : ∀ i,i < n → ∃ x,p i x) : ∃ l : List α,l.length = n ∧ ∀ i,i < n → ∃ x,l[i]? = some x ∧ p i x:=by
  induction n with
  | zero=>exact ⟨[],rfl,fun i hi=>by omega⟩
  | succ n ih =>
    obtain ⟨l,hl,hp⟩:=ih (fun i hi=>h i (by omega))
    obtain ⟨x,hx⟩:=h n (by omega)
    refine ⟨l ++ [x],by simp [hl],fun i hi=>?_⟩
    by_cases e : i = n
    · subst e
      exact ⟨x,by rw [List.getElem?_append_right (by omega)]; simp [hl],hx⟩
    · obtain ⟨y,hy,hq⟩:=hp i (by omega)
      exact ⟨y,by rw [List.getElem?_append_left (by omega)]; exact hy,hq⟩
theorem cell_lt {w : World} {p : Addr} {v : Value} (h : w.cell? p = some v) : p.block < w.heap.size:=by
  apply Classical.byContradiction
  intro hn
  unfold World.cell? at h
  rw [Array.getElem?_eq_none (by omega)] at h
  simp at h
theorem addr_add (b off k : Nat) : (⟨b,off,none⟩ : Addr).add k = ⟨b,off + k,none⟩:=by
  unfold Addr.add
  by_cases h : k = 0 <;> simp [h]
theorem list4 {α : Type} {l : List α} (h : l.length = 4) : ∃ a b c d,l = [a,b,c,d]:=by
  match l,h with
  | [a,b,c,d],_=>exact ⟨a,b,c,d,rfl⟩
section
variable {H : Type} {enc : TypeId × Value → H} {w : World} {spare : Nat → Bool} {held : Bool}
theorem open_ents {fuel : Nat} {v : Value} {x : DataW H × List MemPlace} (h : DataW.trod enc Tryz.prog w 0 spare held fuel 252 [v] = some x) :
    ∃ a n c es,v = .slice a n c ∧ EntsAt w 0 w.heap.size a n es:=by
  rcases Go.Deep.open_slice_pairs Tryz.underlying252 Tryz.underlying309 (by kernel_rfl) rfl rfl (by kernel_rfl) (by kernel_rfl) h with ⟨hcs,_⟩ | ⟨a,len,cap,m,n,V0,V1,D0,D1,P0,P1,hcs,_,hl,hm,hmm,_,hx⟩
  · simp at hcs
    exact ⟨none,0,0,[],hcs,rfl,by simp,fun h=>absurd rfl h⟩
  · simp at hcs
    have hlm : len ≤ m:=by rw [hmm]; split <;> omega
    obtain ⟨es,hes,hp⟩:=list_of (n:=len) (p:=fun i (e : LEnt)=>V0 i = .string e.name ∧ V1 i = .int .i64 e.id ∧ e.name.size ≤ maxLen) (fun i hi=>by
      obtain ⟨_,_,h0,h1⟩:=hx i (by omega)
      obtain ⟨s,e0,_,hs⟩:=DataW.trod_string Tryz.underlying9 h0
      obtain ⟨k,e1,_,_⟩:=DataW.trod_int Tryz.underlying3 h1
      simp at e0 e1
      exact ⟨⟨s,k⟩,e0,e1,hs⟩)
    refine ⟨some a,len,cap,es,hcs,hes.symm,by omega,fun hn=>?_⟩
    obtain ⟨b,off,spot⟩:=a
    have c0:=(hx 0 (by omega)).1
    have hspot : spot = none:=by simpa [Addr.add] using World.cell?_spot c0
    subst hspot
    refine ⟨b,off,rfl,Nat.zero_le _,by have:=cell_lt c0; simpa [Addr.add] using this,fun i hi=>?_⟩
    obtain ⟨e,he,q0,q1,hs⟩:=hp i hi
    obtain ⟨h0,h1,_,_⟩:=hx i (by omega)
    exact ⟨e,he,hs,by rw [← q0,← addr_add]; exact h0,by rw [← q1,Nat.add_assoc,← addr_add]; exact h1⟩
theorem open_objs {fuel : Nat} {v : Value} {x : DataW H × List MemPlace} (h : DataW.trod enc Tryz.prog w 0 spare held fuel 36 [v] = some x) :
    ∃ a n c os,v = .slice a n c ∧ ObjsAt w 0 w.heap.size a n os:=by
  have ce : Tryz.prog.cellsOf 254 = 4:=by kernel_rfl
  have c3 : Tryz.prog.cellsOf 3 = 1:=by kernel_rfl
  have c9 : Tryz.prog.cellsOf 9 = 1:=by kernel_rfl
  have c107 : Tryz.prog.cellsOf 252 = 1:=by kernel_rfl
  rcases Go.Deep.open_slice Tryz.underlying36 h with ⟨hcs,_⟩ | ⟨a,len,cap,m,n,D,Pl,hcs,_,hl,hm,hmm,_,hx⟩
  · simp at hcs
    exact ⟨none,0,0,[],hcs,rfl,by simp,fun h=>absurd rfl h⟩
  · simp at hcs
    have hlm : len ≤ m:=by rw [hmm]; split <;> omega
    obtain ⟨os,hos,hp⟩:=list_of (n:=len) (p:=fun i (o : LObj)=>∃ ka kn kc,o.text.size ≤ maxLen ∧ w.cell? (a.add (i * 4)) = some (.int .i64 o.kind) ∧ w.cell? (a.add (i * 4 + 1)) = some (.int .i64 o.ver) ∧ w.cell? (a.add (i * 4 + 2)) = some (.string o.text) ∧ w.cell? (a.add (i * 4 + 3)) = some (.slice ka kn kc) ∧ EntsAt w 0 w.heap.size ka kn o.kids) (fun i hi=>by
      obtain ⟨cs',h1,h2⟩:=hx i (by omega)
      rw [ce] at h1
      obtain ⟨_,hlen,hcell⟩:=World.cells?_some h1
      obtain ⟨y0,y1,y2,y3,n',_,_,t0,t1,t2,t3⟩:=Go.Joins.trod_struct4 Tryz.underlying254 h2
      obtain ⟨v0,v1,v2,v3,rfl⟩:=list4 hlen
      simp [c3,c9,c107] at t0 t1 t2 t3
      obtain ⟨k,e0,_,_⟩:=DataW.trod_int Tryz.underlying3 t0
      obtain ⟨vr,e1,_,_⟩:=DataW.trod_int Tryz.underlying3 t1
      obtain ⟨s,e2,_,hs⟩:=DataW.trod_string Tryz.underlying9 t2
      obtain ⟨ka,kn,kc,es,e3,he⟩:=open_ents t3
      simp at e0 e1 e2
      have g0:=hcell 0 (by omega)
      have g1:=hcell 1 (by omega)
      have g2:=hcell 2 (by omega)
      have g3:=hcell 3 (by omega)
      rw [Go.Deep.add_add] at g0 g1 g2 g3
      exact ⟨⟨k,vr,s,es⟩,ka,kn,kc,hs,by simpa [e0] using g0,by simpa [e1] using g1,by simpa [e2] using g2,by simpa [e3] using g3,he⟩)
    refine ⟨some a,len,cap,os,hcs,hos.symm,by omega,fun hn=>?_⟩
    obtain ⟨b,off,spot⟩:=a
    obtain ⟨_,_,_,_,_,_,c0,_⟩:=hp 0 (by omega)
    have hspot : spot = none:=by simpa [Addr.add] using World.cell?_spot c0
    subst hspot
    refine ⟨b,off,rfl,Nat.zero_le _,by have:=cell_lt c0; simpa [Addr.add] using this,fun i hi=>?_⟩
    obtain ⟨o,ho,ka,kn,kc,hs,q0,q1,q2,q3,he⟩:=hp i hi
    exact ⟨o,ka,kn,kc,ho,hs,by rw [← addr_add]; exact q0,by rw [Nat.add_assoc,← addr_add]; exact q1,by rw [Nat.add_assoc,← addr_add]; exact q2,by rw [Nat.add_assoc,← addr_add]; exact q3,he⟩
end
end
section
open Go.RowKit
def sEq (s s' : ByteArray) : Bool:=s.toList == s'.toList
theorem sEq_iff (s s' : ByteArray) : sEq s s' = true ↔ s = s':=by
  unfold sEq
  rw [beq_iff_eq,ByteArray.toList_eq,ByteArray.toList_eq]
  constructor
  · intro h
    cases s; cases s'; simp at h; simp [h]
  · intro h; rw [h]
def listEq {α : Type} (f : α → α → Bool) : List α → List α → Bool
  | [],[]=>true
  | a :: l,b :: m=>f a b && listEq f l m
  | _,_=>false
theorem listEq_len {α : Type} {f : α → α → Bool} : ∀ {l m : List α},l.length ≠ m.length → listEq f l m = false
  | [],[],h=>absurd rfl h
  | [],_ :: _,_=>rfl
  | _ :: _,[],_=>rfl
  | a :: l,b :: m,h=>by
    unfold listEq
    rw [listEq_len (l:=l) (m:=m) (by simpa using h),Bool.and_false]
theorem listEq_no {α : Type} {f : α → α → Bool} : ∀ {l m : List α} {j : Nat} {a b : α},l[j]? = some a → m[j]? = some b → f a b = false → listEq f l m = false
  | [],_,j,_,_,h,_,_=>by simp at h
  | _ :: _,[],_,_,_,_,h,_=>by simp at h
  | a :: l,b :: m,0,x,y,h,k,e=>by
    simp at h k
    subst h k
    unfold listEq
    rw [e,Bool.false_and]
  | a :: l,b :: m,j + 1,x,y,h,k,e=>by
    unfold listEq
    rw [listEq_no (l:=l) (m:=m) (j:=j) (by simpa using h) (by simpa using k) e,Bool.and_false]
theorem listEq_yes {α : Type} {f : α → α → Bool} : ∀ {l m : List α},l.length = m.length → (∀ (j : Nat) a b,l[j]? = some a → m[j]? = some b → f a b = true) → listEq f l m = true
  | [],[],_,_=>rfl
  | [],_ :: _,h,_=>by simp at h
  | _ :: _,[],h,_=>by simp at h
  | a :: l,b :: m,h,k=>by
    unfold listEq
    rw [k 0 a b rfl rfl,Bool.true_and]
    exact listEq_yes (by simpa using h) (fun j x y hx hy=>k (j + 1) x y (by simpa using hx) (by simpa using hy))
theorem Below.drewN (w : World) (m : Nat) : Below w.heap.size w (w.drewN m):=by
  induction m with
  | zero=>exact Below.refl _ _
  | succ m ih=>exact ⟨ih.os,ih.tape,ih.output,ih.size,ih.block⟩
end
section
open Go.RowKit
end
section
open Go.RowKit
theorem totO_le {os : List LObj} {o : LObj} (h : o ∈ os) : totO o ≤ totT os:=by
  induction os with
  | nil=>simp at h
  | cons x l ih =>
    simp only [totT,List.map_cons,List.sum_cons]
    rcases List.mem_cons.1 h with h | h
    · subst h; omega
    · have:=ih h; unfold totT at this; omega
end
theorem sT {α : Type} (l : List α) (i : Nat) (a : α) : l.toArray.setIfInBounds i a = (l.set i a).toArray := by simp
theorem sS {α : Type} (x : α) (l : List α) (i : Nat) (a : α) : (x :: l).set (i + 1) a = x :: l.set i a := rfl
theorem sZ {α : Type} (x : α) (l : List α) (a : α) : (x :: l).set 0 a = a :: l := rfl
end Go.Proofs.YtloopeipheklpaaGreatDoor
