/- Lemmas that the proofs of this seat share: LaidS, Facts, Closed, CardF. -/
import Derived.Test.YtloopeipheklpaaGreatDoorRows
import Derived.Test.YtloopeipheklpaaGreatDoorV19
import Derived.LaidLaws
import Derived.LaidSub
import Derived.Stop.LaidErr
import Derived.RowKitTokens
import Derived.ChangeReads
import Derived.ProofKit
import Derived.SevenTiedAt
namespace Go.Proofs.YtloopeipheklpaaGreatDoor
section
open Go.RowKit Go.ChangeShapes Go.WideShapes Go.ChangeAt
theorem laid_errs {P : Program} {nm : String} {W : World} {ti tp te ts : TypeId} {ms : Array (String × TypeId)} {f : Field}
    (hi : P.underlying ti = some (.interface ms)) (hrow : ∀ u,P.typeName? 3 u = some nm → u = tp)
    (hp : P.underlying tp = some (.pointer te)) (he : P.underlying te = some (.struct #[f])) (hft : f.type = ts) (hfo : f.offset = 0) (hs : P.underlying ts = some .string) (hc : P.cellsOf te = 1) (hcs : P.cellsOf ts = 1) :
    ∀ (l : List (String × List UInt8)) (ps : List MemPlace),DataW.LaidVars P W (l.map fun x => (x.1,DataW.iface nm (.ptr (.agg [.lit (.string x.2)])))) ps → ps.Nodup →
      (∀ b off,MemPlace.cell b off ∈ ps → (∃ c t,W.heap[b]? = some (.cells c t (0,0))) ∧ ∀ u v,W.cell? ⟨b,off,none⟩ = some (.iface u v) → Value.okWide P W .any 0 u v) →
      (∀ x ∈ l,∃ g,P.globalNamed x.1 = some g ∧ (P.globals[g]?).map (·.type) = some ti) →
      ∃ ad : List Addr,ad.length = l.length ∧ ad.Nodup ∧ (∀ a ∈ ad,MemPlace.cell a.block a.off ∈ ps) ∧ ∀ (i : Nat) x a,l[i]? = some x → ad[i]? = some a → W.var? P x.1 = some #[.iface tp (.pointer (some a))] ∧ ∃ c t,W.heap[a.block]? = some (.cells c t (0,0))
  | [],ps,_,_,_,_ => ⟨[],rfl,List.nodup_nil,(fun a h => by simp at h),(fun i x a h => by simp at h)⟩
  | x :: l,ps,hv,hnd,hrows,hg => by
    obtain ⟨g0,t0,cs0,f0,p0,q0,hg0,ht0,hv0,hd0,hrest,e0⟩:=hv
    obtain ⟨g,hg1,hg2⟩:=hg x (by simp)
    obtain rfl:=Option.some.inj (hg1.symm.trans hg0)
    obtain rfl:=Option.some.inj (hg2.symm.trans ht0)
    subst e0
    obtain ⟨l0⟩:=cs0
    have ok0 : ∀ u v,l0 = [.iface u v] → Value.okWide P W .any 0 u v:=fun u v e => by
      subst e
      exact (hrows g 0 (by simp [MemPlace.row])).2 u v (by simpa using World.var?_cell hg0 hv0 0)
    obtain ⟨a0,s0,rfl,hc0,hs0,hz0,rfl⟩:=errorString_of_trod hi hrow hp he hft hfo hs hc hcs hd0 ok0
    obtain ⟨ad,h1,h2,h3,h4⟩:=laid_errs hi hrow hp he hft hfo hs hc hcs l q0 hrest (List.Nodup.sublist (List.sublist_append_right _ _) hnd) (fun b off hm => hrows b off (List.mem_append_right _ hm)) (fun y hy => hg y (by simp [hy]))
    have hrow0 : MemPlace.row a0 1 = [MemPlace.cell a0.block a0.off]:=by simp [MemPlace.row]
    refine ⟨a0 :: ad,by simp [h1],?_,?_,?_⟩
    · refine List.nodup_cons.2 ⟨fun hm => ?_,h2⟩
      have h5:=h3 a0 hm
      rw [hrow0] at hnd
      have h6:=(List.nodup_append.1 hnd).2.2 (MemPlace.cell a0.block a0.off) (by simp) _ h5
      exact h6 rfl
    · intro a ha
      rcases List.mem_cons.1 ha with rfl | ha
      · rw [hrow0]; simp
      · exact List.mem_append_right _ (h3 a ha)
    · intro i y a hy ha
      cases i with
      | zero =>
        simp at hy ha
        subst hy ha
        exact ⟨hv0,(hrows a0.block a0.off (by rw [hrow0]; simp)).1⟩
      | succ i => exact h4 i y a (by simpa using hy) (by simpa using ha)
theorem row323 (u : TypeId) (h : Tryz.prog.typeName? 3 u = some "*errors.errorString") : u = 323 :=
  typeName_ptr_named (nm := "errors.errorString") (by rw [show "*" ++ "errors.errorString" = "*errors.errorString" by decide]; kernel_rfl) (by kernel_rfl) (by decide) u (by rw [show "*" ++ "errors.errorString" = "*errors.errorString" by decide]; exact h)
theorem gn0 : Tryz.prog.globalNamed "loop.example/shieling/impl.errForm" = some 0 := by kernel_rfl
theorem gt0 : (Tryz.prog.globals[0]?).map (·.type) = some 95:=by kernel_rfl
theorem gn1 : Tryz.prog.globalNamed "loop.example/shieling/impl.errDirs" = some 1 := by kernel_rfl
theorem gt1 : (Tryz.prog.globals[1]?).map (·.type) = some 95:=by kernel_rfl
theorem gn2 : Tryz.prog.globalNamed "loop.example/shieling/impl.errNone" = some 2 := by kernel_rfl
theorem gt2 : (Tryz.prog.globals[2]?).map (·.type) = some 95:=by kernel_rfl
theorem gn3 : Tryz.prog.globalNamed "loop.example/shieling/impl.errThere" = some 3 := by kernel_rfl
theorem gt3 : (Tryz.prog.globals[3]?).map (·.type) = some 95:=by kernel_rfl
theorem gn4 : Tryz.prog.globalNamed "loop.example/shieling/impl.errFull" = some 4 := by kernel_rfl
theorem gt4 : (Tryz.prog.globals[4]?).map (·.type) = some 95:=by kernel_rfl
theorem gn5 : Tryz.prog.globalNamed "loop.example/shieling/impl.errRing" = some 5 := by kernel_rfl
theorem gt5 : (Tryz.prog.globals[5]?).map (·.type) = some 95:=by kernel_rfl
theorem gn6 : Tryz.prog.globalNamed "loop.example/shieling/impl.errKind" = some 6 := by kernel_rfl
theorem gt6 : (Tryz.prog.globals[6]?).map (·.type) = some 95:=by kernel_rfl
theorem gn7 : Tryz.prog.globalNamed "loop.example/shieling/impl.errUsed" = some 7 := by kernel_rfl
theorem gt7 : (Tryz.prog.globals[7]?).map (·.type) = some 95:=by kernel_rfl
theorem u97 : ∃ ms,Tryz.prog.underlying 95 = some (.interface ms):=⟨_,Tryz.underlying95⟩
def texts8 : List (List UInt8):=[[116,104,105,115,32,105,115,32,110,111,32,100,105,114,101,99,116,111,114,121],[116,104,101,32,110,97,109,101,32,100,111,101,115,32,110,111,116,32,110,97,109,101,32,105,116,32,116,104,101,114,101],[116,104,101,32,110,97,109,101,32,110,97,109,101,115,32,115,111,109,101,116,104,105,110,103,32,116,104,101,114,101,32,97,108,114,101,97,100,121],[105,116,32,104,97,115,32,110,97,109,101,115],[105,116,32,119,111,117,108,100,32,98,101,32,117,110,100,101,114,32,105,116,115,101,108,102],[116,104,105,115,32,105,115,32,110,111,32,102,105,108,101],[116,104,101,32,110,117,109,98,101,114,32,105,115,32,111,114,32,119,97,115,32,115,111,109,101,98,111,100,121,39,115],[116,104,105,115,32,99,97,110,32,110,111,116,32,98,101,32,100,111,110,101,32,111,102,32,97,110,121,32,116,114,101,101,44,32,111,114,32,119,97,115,32,116,117,114,110,101,100,32,116,111,111,32,111,102,116,101,110]]
def names8 : List String := ["loop.example/shieling/impl.errDirs", "loop.example/shieling/impl.errNone", "loop.example/shieling/impl.errThere", "loop.example/shieling/impl.errFull", "loop.example/shieling/impl.errRing", "loop.example/shieling/impl.errKind", "loop.example/shieling/impl.errUsed", "loop.example/shieling/impl.errForm"]
def laid8 : List (String × DataW Unit) := (names8.zip texts8).map fun x => (x.1, DataW.iface "*errors.errorString" (.ptr (.agg [.lit (.string x.2)])))
theorem block_lt_of_row {W : World} {b : Nat} {o : Obj} (h : W.heap[b]? = some o) : b < W.heap.size:=(Array.getElem?_eq_some_iff.1 h).1
theorem sents_laid {W : World} (h : laidMet Tryz.prog laid8 W) : ∃ a : Nat → Addr, Sents W W.heap.size a ∧ W.var? Tryz.prog "loop.example/shieling/impl.errForm" = some #[.iface 323 (.pointer (some (a 0)))] ∧ W.var? Tryz.prog "loop.example/shieling/impl.errDirs" = some #[.iface 323 (.pointer (some (a 1)))] ∧ W.var? Tryz.prog "loop.example/shieling/impl.errNone" = some #[.iface 323 (.pointer (some (a 2)))] ∧ W.var? Tryz.prog "loop.example/shieling/impl.errThere" = some #[.iface 323 (.pointer (some (a 3)))] ∧ W.var? Tryz.prog "loop.example/shieling/impl.errFull" = some #[.iface 323 (.pointer (some (a 4)))] ∧ W.var? Tryz.prog "loop.example/shieling/impl.errRing" = some #[.iface 323 (.pointer (some (a 5)))] ∧ W.var? Tryz.prog "loop.example/shieling/impl.errKind" = some #[.iface 323 (.pointer (some (a 6)))] ∧ W.var? Tryz.prog "loop.example/shieling/impl.errUsed" = some #[.iface 323 (.pointer (some (a 7)))] := by
  obtain ⟨ps,hv,hnd,hrows⟩:=h
  obtain ⟨ms,hms⟩:=u97
  have hg : ∀ x ∈ names8.zip texts8,∃ g,Tryz.prog.globalNamed x.1 = some g ∧ (Tryz.prog.globals[g]?).map (·.type) = some 95:=by
    intro x hx
    simp only [names8,texts8,List.zip_cons_cons,List.zip_nil_right,List.mem_cons,List.not_mem_nil,or_false] at hx
    rcases hx with rfl | rfl | rfl | rfl | rfl | rfl | rfl | rfl
    · exact ⟨_,gn1,gt1⟩
    · exact ⟨_,gn2,gt2⟩
    · exact ⟨_,gn3,gt3⟩
    · exact ⟨_,gn4,gt4⟩
    · exact ⟨_,gn5,gt5⟩
    · exact ⟨_,gn6,gt6⟩
    · exact ⟨_,gn7,gt7⟩
    · exact ⟨_,gn0,gt0⟩
  obtain ⟨ad,h1,h2,-,h4⟩:=laid_errs hms row323 Tryz.underlying323 Tryz.underlying365 rfl rfl Tryz.underlying9 (by kernel_rfl) (by kernel_rfl) (names8.zip texts8) ps hv hnd hrows hg
  have hlen : ad.length = 8:=by rw [h1]; rfl
  match ad,hlen with
  | [a1,a2,a3,a4,a5,a6,a7,a0],_ =>
    have k1:=h4 0 _ a1 rfl rfl
    have k2:=h4 1 _ a2 rfl rfl
    have k3:=h4 2 _ a3 rfl rfl
    have k4:=h4 3 _ a4 rfl rfl
    have k5:=h4 4 _ a5 rfl rfl
    have k6:=h4 5 _ a6 rfl rfl
    have k7:=h4 6 _ a7 rfl rfl
    have k0:=h4 7 _ a0 rfl rfl
    clear h4 hv hnd hrows hg h1
    dsimp only at k0 k1 k2 k3 k4 k5 k6 k7
    refine ⟨fun | 0 => a0 | 1 => a1 | 2 => a2 | 3 => a3 | 4 => a4 | 5 => a5 | 6 => a6 | _ => a7,⟨?_,?_,?_,?_⟩,k0.1,k1.1,k2.1,k3.1,k4.1,k5.1,k6.1,k7.1⟩
    · intro i hi
      match i,hi with
      | 0,_ => exact by simpa using World.var?_cell gn0 k0.1 0
      | 1,_ => exact by simpa using World.var?_cell gn1 k1.1 0
      | 2,_ => exact by simpa using World.var?_cell gn2 k2.1 0
      | 3,_ => exact by simpa using World.var?_cell gn3 k3.1 0
      | 4,_ => exact by simpa using World.var?_cell gn4 k4.1 0
      | 5,_ => exact by simpa using World.var?_cell gn5 k5.1 0
      | 6,_ => exact by simpa using World.var?_cell gn6 k6.1 0
      | 7,_ => exact by simpa using World.var?_cell gn7 k7.1 0
    · intro i hi
      match i,hi with
      | 0,_ => exact k0.2
      | 1,_ => exact k1.2
      | 2,_ => exact k2.2
      | 3,_ => exact k3.2
      | 4,_ => exact k4.2
      | 5,_ => exact k5.2
      | 6,_ => exact k6.2
      | 7,_ => exact k7.2
    · intro i j hi hj hij
      have hnd:=h2
      simp only [List.nodup_cons,List.mem_cons,List.not_mem_nil,or_false,not_or] at hnd
      match i,hi,j,hj with
      | 0,_,0,_ => exact absurd rfl hij
      | 0,_,1,_ => intro e; simp_all
      | 0,_,2,_ => intro e; simp_all
      | 0,_,3,_ => intro e; simp_all
      | 0,_,4,_ => intro e; simp_all
      | 0,_,5,_ => intro e; simp_all
      | 0,_,6,_ => intro e; simp_all
      | 0,_,7,_ => intro e; simp_all
      | 1,_,0,_ => intro e; simp_all
      | 1,_,1,_ => exact absurd rfl hij
      | 1,_,2,_ => intro e; simp_all
      | 1,_,3,_ => intro e; simp_all
      | 1,_,4,_ => intro e; simp_all
      | 1,_,5,_ => intro e; simp_all
      | 1,_,6,_ => intro e; simp_all
      | 1,_,7,_ => intro e; simp_all
      | 2,_,0,_ => intro e; simp_all
      | 2,_,1,_ => intro e; simp_all
      | 2,_,2,_ => exact absurd rfl hij
      | 2,_,3,_ => intro e; simp_all
      | 2,_,4,_ => intro e; simp_all
      | 2,_,5,_ => intro e; simp_all
      | 2,_,6,_ => intro e; simp_all
      | 2,_,7,_ => intro e; simp_all
      | 3,_,0,_ => intro e; simp_all
      | 3,_,1,_ => intro e; simp_all
      | 3,_,2,_ => intro e; simp_all
      | 3,_,3,_ => exact absurd rfl hij
      | 3,_,4,_ => intro e; simp_all
      | 3,_,5,_ => intro e; simp_all
      | 3,_,6,_ => intro e; simp_all
      | 3,_,7,_ => intro e; simp_all
      | 4,_,0,_ => intro e; simp_all
      | 4,_,1,_ => intro e; simp_all
      | 4,_,2,_ => intro e; simp_all
      | 4,_,3,_ => intro e; simp_all
      | 4,_,4,_ => exact absurd rfl hij
      | 4,_,5,_ => intro e; simp_all
      | 4,_,6,_ => intro e; simp_all
      | 4,_,7,_ => intro e; simp_all
      | 5,_,0,_ => intro e; simp_all
      | 5,_,1,_ => intro e; simp_all
      | 5,_,2,_ => intro e; simp_all
      | 5,_,3,_ => intro e; simp_all
      | 5,_,4,_ => intro e; simp_all
      | 5,_,5,_ => exact absurd rfl hij
      | 5,_,6,_ => intro e; simp_all
      | 5,_,7,_ => intro e; simp_all
      | 6,_,0,_ => intro e; simp_all
      | 6,_,1,_ => intro e; simp_all
      | 6,_,2,_ => intro e; simp_all
      | 6,_,3,_ => intro e; simp_all
      | 6,_,4,_ => intro e; simp_all
      | 6,_,5,_ => intro e; simp_all
      | 6,_,6,_ => exact absurd rfl hij
      | 6,_,7,_ => intro e; simp_all
      | 7,_,0,_ => intro e; simp_all
      | 7,_,1,_ => intro e; simp_all
      | 7,_,2,_ => intro e; simp_all
      | 7,_,3,_ => intro e; simp_all
      | 7,_,4,_ => intro e; simp_all
      | 7,_,5,_ => intro e; simp_all
      | 7,_,6,_ => intro e; simp_all
      | 7,_,7,_ => exact absurd rfl hij
    · intro i hi
      match i,hi with
      | 0,_ => exact ⟨World.block_lt_of_cell? _ _ (by simpa using World.var?_cell gn0 k0.1 0),by obtain ⟨c,t,h⟩:=k0.2; exact block_lt_of_row h⟩
      | 1,_ => exact ⟨World.block_lt_of_cell? _ _ (by simpa using World.var?_cell gn1 k1.1 0),by obtain ⟨c,t,h⟩:=k1.2; exact block_lt_of_row h⟩
      | 2,_ => exact ⟨World.block_lt_of_cell? _ _ (by simpa using World.var?_cell gn2 k2.1 0),by obtain ⟨c,t,h⟩:=k2.2; exact block_lt_of_row h⟩
      | 3,_ => exact ⟨World.block_lt_of_cell? _ _ (by simpa using World.var?_cell gn3 k3.1 0),by obtain ⟨c,t,h⟩:=k3.2; exact block_lt_of_row h⟩
      | 4,_ => exact ⟨World.block_lt_of_cell? _ _ (by simpa using World.var?_cell gn4 k4.1 0),by obtain ⟨c,t,h⟩:=k4.2; exact block_lt_of_row h⟩
      | 5,_ => exact ⟨World.block_lt_of_cell? _ _ (by simpa using World.var?_cell gn5 k5.1 0),by obtain ⟨c,t,h⟩:=k5.2; exact block_lt_of_row h⟩
      | 6,_ => exact ⟨World.block_lt_of_cell? _ _ (by simpa using World.var?_cell gn6 k6.1 0),by obtain ⟨c,t,h⟩:=k6.2; exact block_lt_of_row h⟩
      | 7,_ => exact ⟨World.block_lt_of_cell? _ _ (by simpa using World.var?_cell gn7 k7.1 0),by obtain ⟨c,t,h⟩:=k7.2; exact block_lt_of_row h⟩
theorem var_below {W W' : World} {n : String} {cs : Array Value} (hb : Below W.heap.size W W') (h : W.var? Tryz.prog n = some cs) : W'.var? Tryz.prog n = some cs:=by
  unfold World.var? at h ⊢
  cases hg : Tryz.prog.globalNamed n with
  | none => simp [hg] at h
  | some g =>
    simp only [hg,Option.bind_some] at h ⊢
    have hlt : g < W.heap.size:=by
      rcases Nat.lt_or_ge g W.heap.size with h' | h'
      · exact h'
      · simp [Array.getElem?_eq_none h'] at h
    rw [hb.block g hlt]
    exact h
theorem vars_readL {H : Type} (enc : TypeId × Value → H) {W : World} (sp : Nat → Bool) : ∀ (l : List (String × Nat × Value)),(∀ x ∈ l,Tryz.prog.globalNamed x.1 = some x.2.1 ∧ (Tryz.prog.globals[x.2.1]?).map (·.type) = some 95 ∧ W.var? Tryz.prog x.1 = some #[x.2.2] ∧ IsIface x.2.2) →
    DataW.TrodVars enc Tryz.prog W sp (l.map (·.1)) (l.map fun x => tok enc x.2.2) (l.map fun x => MemPlace.cell x.2.1 0)
  | [],_ => rfl
  | x :: l,h => by
    obtain ⟨h1,h2,h3,h4⟩:=h x (by simp)
    exact ⟨x.2.1,95,#[x.2.2],1,[],_,h1,h2,h3,trod_held Tryz.underlying95 h4 0,vars_readL enc sp l fun y hy => h y (by simp [hy]),by simp [MemPlace.row]⟩
theorem vars8 {H : Type} (enc : TypeId × Value → H) {W : World} (sp : Nat → Bool) (a : Nat → Addr) (h : W.var? Tryz.prog "loop.example/shieling/impl.errForm" = some #[.iface 323 (.pointer (some (a 0)))] ∧ W.var? Tryz.prog "loop.example/shieling/impl.errDirs" = some #[.iface 323 (.pointer (some (a 1)))] ∧ W.var? Tryz.prog "loop.example/shieling/impl.errNone" = some #[.iface 323 (.pointer (some (a 2)))] ∧ W.var? Tryz.prog "loop.example/shieling/impl.errThere" = some #[.iface 323 (.pointer (some (a 3)))] ∧ W.var? Tryz.prog "loop.example/shieling/impl.errFull" = some #[.iface 323 (.pointer (some (a 4)))] ∧ W.var? Tryz.prog "loop.example/shieling/impl.errRing" = some #[.iface 323 (.pointer (some (a 5)))] ∧ W.var? Tryz.prog "loop.example/shieling/impl.errKind" = some #[.iface 323 (.pointer (some (a 6)))] ∧ W.var? Tryz.prog "loop.example/shieling/impl.errUsed" = some #[.iface 323 (.pointer (some (a 7)))]) :
    DataW.TrodVars enc Tryz.prog W sp ["loop.example/shieling/impl.errForm", "loop.example/shieling/impl.errDirs", "loop.example/shieling/impl.errNone", "loop.example/shieling/impl.errThere", "loop.example/shieling/impl.errFull", "loop.example/shieling/impl.errRing", "loop.example/shieling/impl.errKind", "loop.example/shieling/impl.errUsed"] [tok enc (.iface 323 (.pointer (some (a 0)))), tok enc (.iface 323 (.pointer (some (a 1)))), tok enc (.iface 323 (.pointer (some (a 2)))), tok enc (.iface 323 (.pointer (some (a 3)))), tok enc (.iface 323 (.pointer (some (a 4)))), tok enc (.iface 323 (.pointer (some (a 5)))), tok enc (.iface 323 (.pointer (some (a 6)))), tok enc (.iface 323 (.pointer (some (a 7))))] [.cell 0 0, .cell 1 0, .cell 2 0, .cell 3 0, .cell 4 0, .cell 5 0, .cell 6 0, .cell 7 0] := by
  obtain ⟨h0,h1,h2,h3,h4,h5,h6,h7⟩:=h
  exact vars_readL enc sp [("loop.example/shieling/impl.errForm", 0, .iface 323 (.pointer (some (a 0)))), ("loop.example/shieling/impl.errDirs", 1, .iface 323 (.pointer (some (a 1)))), ("loop.example/shieling/impl.errNone", 2, .iface 323 (.pointer (some (a 2)))), ("loop.example/shieling/impl.errThere", 3, .iface 323 (.pointer (some (a 3)))), ("loop.example/shieling/impl.errFull", 4, .iface 323 (.pointer (some (a 4)))), ("loop.example/shieling/impl.errRing", 5, .iface 323 (.pointer (some (a 5)))), ("loop.example/shieling/impl.errKind", 6, .iface 323 (.pointer (some (a 6)))), ("loop.example/shieling/impl.errUsed", 7, .iface 323 (.pointer (some (a 7))))] fun x hx => by
    simp only [List.mem_cons,List.not_mem_nil,or_false] at hx
    rcases hx with rfl | rfl | rfl | rfl | rfl | rfl | rfl | rfl
    · exact ⟨gn0,gt0,h0,trivial⟩
    · exact ⟨gn1,gt1,h1,trivial⟩
    · exact ⟨gn2,gt2,h2,trivial⟩
    · exact ⟨gn3,gt3,h3,trivial⟩
    · exact ⟨gn4,gt4,h4,trivial⟩
    · exact ⟨gn5,gt5,h5,trivial⟩
    · exact ⟨gn6,gt6,h6,trivial⟩
    · exact ⟨gn7,gt7,h7,trivial⟩
end
section
theorem fLaid : laidOutB Tryz.prog = true:=by kernel_rfl
theorem fMaps : mapsRowed Tryz.prog = true:=by kernel_rfl
theorem fStops : (Tryz.prog.stops == []) = true:=by kernel_rfl
theorem fKnobs : (Tryz.prog.stopKnobs == []) = true:=by kernel_rfl
theorem fKeys : (false == Tryz.prog.plainKeys) = true:=by kernel_rfl
theorem fHeard : Tryz.prog.stopsHeard = true:=by kernel_rfl
def chars (l : List Nat) : List Char:=l.map Char.ofNat
def w0 : List Nat:=[104,97,114,110,101,115,115]
def w1 : List Nat:=[102,52,53,57,56,52,101,49,49,55,100,54,97,52,56,53,49,102,51,49,102,97,57,52,54,50,56,97,97,50,48,100,98,102,97,57,57,98,50,53,49,48,55,100,101,53,51,54,101,55,57,53,99,98,48,49,101,52,97,98,102,48,51,102]
def w2 : List Nat:=[99,117,116]
def w3 : List Nat:=[97,116,32,108,111,111,112,46,101,120,97,109,112,108,101,47,115,104,105,101,108,105,110,103,47,108,97,119,115,46,70,110,69,120,97,99,116,84,111,108,100,70,111,108,100,32,108,111,111,112,46,101,120,97,109,112,108,101,47,115,104,105,101,108,105,110,103,47,108,97,119,115,46,70,110,69,120,97,99,116,84,111,108,100,84,114,101,101,32,108,111,111,112,46,101,120,97,109,112,108,101,47,115,104,105,101,108,105,110,103,47,108,97,119,115,46,70,110,69,120,97,99,116,84,111,108,100,79,110,99,101,32,108,111,111,112,46,101,120,97,109,112,108,101,47,115,104,105,101,108,105,110,103,47,108,97,119,115,46,70,110,69,120,97,99,116,84,111,108,100,84,114,117,101,32,108,111,111,112,46,101,120,97,109,112,108,101,47,115,104,105,101,108,105,110,103,47,108,97,119,115,46,70,110,69,120,97,99,116,75,101,101,112,79,107,32,108,111,111,112,46,101,120,97,109,112,108,101,47,115,104,105,101,108,105,110,103,47,108,97,119,115,46,70,110,69,120,97,99,116,75,101,101,112,86,105,101,119,32,108,111,111,112,46,101,120,97,109,112,108,101,47,115,104,105,101,108,105,110,103,47,108,97,119,115,46,70,110,69,120,97,99,116,75,101,101,112,67,108,101,97,114,32,108,111,111,112,46,101,120,97,109,112,108,101,47,115,104,105,101,108,105,110,103,47,108,97,119,115,46,70,110,69,120,97,99,116,87,111,114,108,100,79,107]
theorem signs_word : ∀ (l r : List Char),(l.all fun x => x.toNat != 32) = true → wordsSigns (l ++ Char.ofNat 32 :: r) = l :: wordsSigns r
  | [],r,_ => rfl
  | x :: l,r,h => by
    simp only [List.all_cons,Bool.and_eq_true,bne_iff_ne,ne_eq] at h
    have ih:=signs_word l r h.2
    have hx : x ≠ Char.ofNat 32:=fun e => h.1 (by rw [e]; rfl)
    rw [List.cons_append,wordsSigns.eq_3 x _ (fun e => hx e),ih]
theorem head_chars : Tryz.prog.initOrder.toList = chars w0 ++ Char.ofNat 32 :: (chars w1 ++ Char.ofNat 32 :: (chars w2 ++ Char.ofNat 32 :: chars w3)):=by
  have h : (String.ofList (chars w0 ++ Char.ofNat 32 :: (chars w1 ++ Char.ofNat 32 :: (chars w2 ++ Char.ofNat 32 :: chars w3)))).toList = chars w0 ++ Char.ofNat 32 :: (chars w1 ++ Char.ofNat 32 :: (chars w2 ++ Char.ofNat 32 :: chars w3)):=String.toList_ofList
  exact (congrArg String.toList (show Tryz.prog.initOrder = String.ofList (chars w0 ++ Char.ofNat 32 :: (chars w1 ++ Char.ofNat 32 :: (chars w2 ++ Char.ofNat 32 :: chars w3))) by kernel_rfl)).trans h
theorem head_words : wordsSigns Tryz.prog.initOrder.toList = chars w0 :: chars w1 :: chars w2 :: wordsSigns (chars w3):=by
  rw [head_chars,signs_word _ _ (by kernel_rfl),signs_word _ _ (by kernel_rfl),signs_word _ _ (by kernel_rfl)]
theorem behind_main (h s : List Char) (r : List (List Char)) (e : ((h == "harness".toList || h == "ownmain".toList) && isSumSigns s) = true) : behindMainWord (h :: s :: r) = r := by
  unfold behindMainWord
  simp only [e,if_true]
theorem head_behind : ∃ ws,behindMainWord (wordsSigns Tryz.prog.initOrder.toList) = chars w2 :: ws :=
  ⟨_,by rw [head_words]; exact behind_main _ _ _ (by kernel_rfl)⟩
theorem lifts_of (c : List Char) (ws : List (List Char)) : ∀ (os : List String),(os.all fun o => !(c == o.toList)) = true → stripLifts os (c :: ws) = ([],c :: ws)
  | [],_ => rfl
  | o :: os,h => by
    simp only [List.all_cons,Bool.and_eq_true,Bool.not_eq_true'] at h
    unfold stripLifts
    rw [if_neg (by rw [h.1]; simp)]
    exact lifts_of c ws os h.2
theorem fLater : Tryz.prog.laysLater = false:=by kernel_rfl
theorem fReflect : Tryz.prog.bearsReflect = false:=by kernel_rfl
theorem fDoor : Tryz.prog.doorFits [] = true:=by kernel_rfl
theorem lifts_head {P : Program} {c : List Char} {ws : List (List Char)} (hw : behindMainWord (wordsSigns P.initOrder.toList) = c :: ws) (hl : (liftWords.all fun o => !(c == o.toList)) = true) : P.headLifts = []:=by
  unfold Program.headLifts
  rw [hw,lifts_of c ws _ hl]
  simp only [ite_self]
theorem enter_of {P : Program} {c : List Char} {ws : List (List Char)} (hw : behindMainWord (wordsSigns P.initOrder.toList) = c :: ws) (hl : (liftWords.all fun o => !(c == o.toList)) = true)
    (hc : (some c == some "cut".toList) = true) (h1 : P.laysLater = false) (h2 : P.bearsReflect = false) (h3 : P.doorFits [] = true) : P.mayEnter = true := by
  unfold Program.mayEnter
  rw [hw]
  simp only [lifts_of c ws _ hl,h1,h2,h3,List.head?_cons,hc,List.contains_nil,Bool.not_false,Bool.or_true,Bool.and_true]
theorem final_of {P : Program} {c : List Char} {ws : List (List Char)} (hw : behindMainWord (wordsSigns P.initOrder.toList) = c :: ws) (hl : (liftWords.all fun o => !(c == o.toList)) = true)
    (hc : (some c == some "carried".toList) = false) : P.liftsFinal = false := by
  unfold Program.liftsFinal
  rw [lifts_head hw hl,hw]
  simp only [List.head?_cons,hc,Bool.false_and,List.contains_nil,Bool.or_false]
theorem make_of {P : Program} {c : List Char} {ws : List (List Char)} (hw : behindMainWord (wordsSigns P.initOrder.toList) = c :: ws)
    (h1 : (c == "gc".toList || c == "spec".toList) = false) (h2 : (c == "cut".toList) = true) : P.make = some .cut := by
  unfold Program.make
  rw [hw]
  simp only [h1,h2,Bool.true_or,if_true,Bool.false_eq_true,if_false]
theorem fEnter : Tryz.prog.mayEnter = true:=by
  obtain ⟨ws,hw⟩:=head_behind
  exact enter_of hw (by kernel_rfl) (by kernel_rfl) fLater fReflect fDoor
theorem fFinal : (Rows.fnExactKeepOkRow.lifted == Tryz.prog.liftsFinal) = true:=by
  obtain ⟨ws,hw⟩:=head_behind
  rw [final_of hw (by kernel_rfl) (by kernel_rfl)]; rfl
theorem fMake : (Tryz.prog.make == some Rows.fnExactKeepOkRow.make) = true:=by
  obtain ⟨ws,hw⟩:=head_behind
  rw [make_of hw (by kernel_rfl) (by kernel_rfl)]; rfl
end
section
theorem band {a b : Bool} (h : a = true) (k : b = true) : (a && b) = true:=by rw [h,k]; rfl
theorem closedOf {f : FuncId} {fn : Func} {s : ChangeSpec} {c : OpenClaim}
    (e1 : c.plainKeys = false) (e2 : c.lifted = Rows.fnExactKeepOkRow.lifted) (e3 : c.make = Rows.fnExactKeepOkRow.make)
    (k1 : c.wf (OpenSpec.ofChange s) = true) (k2 : fn.params.all (Tryz.prog.readableRec ·) = true) (k3 : namedTie Tryz.prog c.named s.vars = true)
    (k4 : (c.stops == []) = true) (k5 : (c.knobs == []) = true)
    (k6 : (c.inPlace == Tryz.prog.inPlace f) = true) (k7 : (c.unfollowed == Tryz.prog.unfollowed f) = true) (k8 : (c.recurses == Tryz.prog.recurses f) = true) (k9 : (c.named == Tryz.prog.varsNamed f) = true)
    (k10 : (c.maps == (fn.params.toList ++ s.plain.varTypes Tryz.prog).any (Tryz.prog.mapsRec ·)) = true) (k11 : (c.ifaces == (fn.params.toList ++ s.plain.varTypes Tryz.prog).any (Tryz.prog.ifacesRec ·)) = true) (k12 : (c.mapsOut == Tryz.prog.mapsAmong fn.resultTypes.toList) = true)
    (k13 : (c.loops == (fn.params.toList ++ s.plain.varTypes Tryz.prog).any (Tryz.prog.loopsFrom ·)) = true) (k14 : (c.wideKeys == (fn.params.toList ++ s.plain.varTypes Tryz.prog ++ fn.resultTypes.toList).any (Tryz.prog.wideKeysFrom ·)) = true)
    (k15 : s.vars.all (Tryz.prog.varReadable ·) = true) (k16 : fn.resultTypes.all (fun t => Tryz.prog.readableRec t && decide (t < Tryz.prog.types.size)) = true) (k17 : (c.ifacesOut == fn.resultTypes.toList.any (Tryz.prog.ifacesRec ·)) = true) (k18 : (c.loopsOut == fn.resultTypes.toList.any (Tryz.prog.loopsFrom ·)) = true)
    (k19 : c.shortTexts.isNone = true)
    (k20 : c.domain = []) (k20' : c.kinds = []) (k21 : (c.pinned == c.pinnedBy) = true)
    (k22 : (c.veiled == (fn.params.toList ++ s.plain.varTypes Tryz.prog ++ fn.resultTypes.toList).any (Tryz.prog.veiledRec ·)) = true) (k23 : c.veiledFits Tryz.prog fn.params.toList (fn.params.toList ++ s.plain.varTypes Tryz.prog ++ fn.resultTypes.toList) = true) :
    joinedFacts Tryz.prog f fn s c = true:=by
  have m1 : (c.plainKeys == Tryz.prog.plainKeys) = true:=by rw [e1]; exact fKeys
  have m2 : (c.lifted == Tryz.prog.liftsFinal) = true:=by rw [e2]; exact fFinal
  have m3 : (Tryz.prog.make == some c.make) = true:=by rw [e3]; exact fMake
  have m4:=fLaid
  have m5:=fMaps
  have m6:=fStops
  have m7:=fKnobs
  have m8:=fHeard
  have m9:=fEnter
  unfold joinedFacts
  repeat' (with_reducible apply band)
  all_goals (first | with_reducible assumption | (rw [k20,k20']; rfl))
end
section
theorem main_is : Tryz.pinned.checked.prog.mainIs = some (true, "f45984e117d6a4851f31fa94628aa20dbfa99b25107de536e795cb01e4abf03f".toList) := by kernel_rfl
theorem looks_is : true = Tryz.pinned.checked.prog.looks []:=by kernel_rfl
end
end Go.Proofs.YtloopeipheklpaaGreatDoor
