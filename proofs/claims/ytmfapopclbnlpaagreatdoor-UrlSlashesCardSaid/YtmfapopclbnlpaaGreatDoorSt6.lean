import Derived.IntWalk
import Derived.Test.YtmfapopclbnlpaaGreatDoorSt5
set_option linter.unusedVariables false
set_option linter.unusedSectionVars false
set_option linter.unusedSimpArgs false
namespace Go.Vc
open Go.RowKit
section
def fY(P:Program)(o:Oper)(a:Act)(u:Value):Prop:=∀w,(execOp a.eval o).run P w=.ok (.value u) w
section
variable [Wd] {P:Program} {cx:Cx} {G:Gh} {lh:List (Nat×PV)} {w:World}
theorem fY.quiet {o:Oper}{a:Act}{u:Value}{s:Sem Value}(he:execOp a.eval o=(do Pure.pure (Next.value (←s))))(hs:∀w',s.run P w'=.ok u w'):fY P o a u:=
 fun w'=>by rw [he,Sem.run_bind,hs];rfl
theorem fY.pure {o:Oper}{a:Act}{u:Value}(he:execOp a.eval o=Pure.pure (Next.value u)):fY P o a u:=
 fun w'=>by rw [he];rfl
set_option maxHeartbeats 1000000 in
theorem wI {X:cq}{T:b7}(hi:Inv cx G lh w){o:Oper}(hq:dY o.op=true){a:Act}{xs:List PV}{v:PV}{f:Option (PV→PV)}{lh':List (Nat×PV)}
 (hx:au xs G w (o.op.operands.toList.map a.eval))(h:(dr P X T o xs lh).Is v f lh lh'):f=none∧lh'=lh∧∃u,aQ v G w u∧fY P o a u:=by
 have hq2:(dY o.op||rX o.op)=true:=by rw [hq];rfl
 have qt:∀{s:Sem Value},execOp a.eval o=(do Pure.pure (Next.value (←s)))→eN P s v G w→∃u,aQ v G w u∧fY P o a u:=fun he hg=>by
  obtain ⟨u,h1,h2⟩:=hg
  exact ⟨u,h2,fY.quiet he h1⟩
 obtain ⟨dst,op,type,pos,after,guard⟩:=o
 cases op
 case move x=>
  obtain ⟨x0,rfl,h1⟩:=au.one (u:=a.eval x) hx
  obtain ⟨rfl,rfl,rfl⟩:=h
  exact ⟨rfl,rfl,_,cO h1,fY.pure rfl⟩
 case assign x=>
  obtain ⟨x0,rfl,h1⟩:=au.one (u:=a.eval x) hx
  unfold dr at h
  dsimp only at h
  split at h
  ·rename_i e n hc hd hn
   have:(!jD x)=true:=hq
   rw [hc]at this;cases this
  ·obtain ⟨rfl,rfl,rfl⟩:=h
   exact ⟨rfl,rfl,_,h1,fY.pure rfl⟩
 case build t ps=>
  obtain ⟨h1,rfl,rfl⟩:=dc.b4 h
  have hx':au xs G w ((ps.toList.map (·.2)).map a.eval):=by simpa [Op.operands]using hx
  refine ⟨rfl,rfl,qt (s:=Instr.build t (ps.map fun(i,x)=>(i,a.eval x))) rfl ?_⟩
  rw [kf]
  exact p9 h1 hx'
 case nilCheck x=>
  obtain ⟨x0,rfl,h1⟩:=au.one (u:=a.eval x) hx
  unfold dr at h
  dsimp only at h
  split at h
  ·rename_i n off he
   injection he with he;subst he
   obtain ⟨rfl,rfl,rfl⟩:=h
   obtain ⟨b,h2,h3⟩:=h1
   refine ⟨rfl,rfl,a.eval x,⟨b,h2,h3⟩,fY.pure ?_⟩
   unfold execOp
   dsimp only
   rw [h3]
  ·rename_i g p q he
   injection he with he;subst he
   obtain ⟨rfl,rfl,rfl⟩:=h
   obtain ⟨us,vs,h2,h3,h4⟩:=h1
   refine ⟨rfl,rfl,a.eval x,⟨us,vs,h2,h3,h4⟩,fY.pure ?_⟩
   unfold execOp
   dsimp only
   rw [h4]
  ·exact h.elim
 case binOp op t x y yt=>
  obtain ⟨x0,y0,rfl,h1,h2⟩:=au.two (u:=a.eval x) (v:=a.eval y) hx
  obtain ⟨h3,rfl,rfl⟩:=dc.b4 h
  exact ⟨rfl,rfl,qt (s:=cA op t x y (a.eval x) (a.eval y)) rfl (y7 h3 h1 h2 x y)⟩
 case unOp op t x=>
  obtain ⟨x0,rfl,h1⟩:=au.one (u:=a.eval x) hx
  obtain ⟨h3,rfl,rfl⟩:=dc.b4 h
  exact ⟨rfl,rfl,qt rfl (EM h3 h1)⟩
 case slice t x lo hi' mx=>
  cases mx with
  |some m=>cases lo<;>cases hi'<;>exact h.elim
  |none=>
   cases lo with
   |none=>
    cases hi' with
    |none=>
     obtain ⟨x0,rfl,h1⟩:=au.one (u:=a.eval x) hx
     obtain ⟨h3,rfl,rfl⟩:=dc.b4 h
     exact ⟨rfl,rfl,qt rfl (dA h3 h1 trivial trivial)⟩
    |some b=>
     obtain ⟨x0,y0,rfl,h1,h2⟩:=au.two (u:=a.eval x) (v:=a.eval b) hx
     obtain ⟨h3,rfl,rfl⟩:=dc.b4 h
     exact ⟨rfl,rfl,qt rfl (dA h3 h1 trivial (o0 h2))⟩
   |some q=>
    cases hi' with
    |none=>
     obtain ⟨x0,y0,rfl,h1,h2⟩:=au.two (u:=a.eval x) (v:=a.eval q) hx
     obtain ⟨h3,rfl,rfl⟩:=dc.b4 h
     exact ⟨rfl,rfl,qt rfl (dA h3 h1 (o0 h2) trivial)⟩
    |some b=>
     obtain ⟨x0,y0,z0,rfl,h1,h2,h4⟩:=au.three (u:=a.eval x) (v:=a.eval q) (q:=a.eval b) hx
     obtain ⟨h3,rfl,rfl⟩:=dc.b4 h
     exact ⟨rfl,rfl,qt rfl (dA h3 h1 (o0 h2) (o0 h4))⟩
 case fieldAddr t x f=>
  obtain ⟨x0,rfl,h1⟩:=au.one (u:=a.eval x) hx
  obtain ⟨h3,rfl,rfl⟩:=dc.b4 h
  exact ⟨rfl,rfl,qt rfl (iV h3 h1)⟩
 case field t x f=>
  obtain ⟨x0,rfl,h1⟩:=au.one (u:=a.eval x) hx
  obtain ⟨h3,rfl,rfl⟩:=dc.b4 h
  exact ⟨rfl,rfl,qt rfl (pU h3 h1)⟩
 case indexAddr t x y=>
  obtain ⟨x0,y0,rfl,h1,h2⟩:=au.two (u:=a.eval x) (v:=a.eval y) hx
  obtain ⟨h3,rfl,rfl⟩:=dc.b4 h
  exact ⟨rfl,rfl,qt rfl (iW h3 h1 h2)⟩
 case index t x y=>
  obtain ⟨x0,y0,rfl,h1,h2⟩:=au.two (u:=a.eval x) (v:=a.eval y) hx
  obtain ⟨h3,rfl,rfl⟩:=dc.b4 h
  exact ⟨rfl,rfl,qt rfl (pV h3 h1 h2)⟩
 case extract x i=>
  obtain ⟨x0,rfl,h1⟩:=au.one (u:=a.eval x) hx
  unfold dr at h
  dsimp only at h
  split at h
  ·rename_i l he
   injection he with he;subst he
   obtain ⟨h3,rfl,rfl⟩:=dc.b4 h
   exact ⟨rfl,rfl,qt rfl (kW h3 h1)⟩
  ·exact h.elim
 case call c=>
  obtain ⟨callee,args,argTypes⟩:=c
  cases callee
  case builtin b=>
   cases b
   case len=>
    have hx':au xs G w (args.toList.map a.eval):=by simpa [Op.operands,Call.operands]using hx
    unfold dr at h
    dsimp only at h
    cases h0:argTypes[0]?with
    |none=>rw [h0]at h;exact h.elim
    |some t=>
     rw [h0]at h
     dsimp only at h
     split at h
     ·rename_i x0
      obtain ⟨h3,rfl,rfl⟩:=dc.b4 h
      obtain ⟨u,us,hl,h1,h2⟩:=hx'
      obtain rfl:us=[]:=h2
      obtain ⟨q,g1,g2⟩:=y8 (ty:=type) h0 h3 (cO (P:=P) (t:=t) (tok:=0) h1)
      refine ⟨rfl,rfl,q,g2,fY.quiet (s:=Builtin.len_ argTypes type #[u]) ?_ g1⟩
      show(do let d←resolve a.eval ⟨.builtin .len,args,argTypes⟩ type;invoke d.target d.args)=_
      unfold resolve
      dsimp only
      have:args.map a.eval=#[u]:=by apply Array.ext';simpa using hl
      rw [this]
      rfl
     ·exact h.elim
   all_goals (cases hq)
  all_goals (cases hq)
 all_goals (cases hq)
variable {ops:Array Oper} {N k:Nat} {s:VS} {a:Act} {X:cq} {T:b7}
theorem wJ {l:List Oper}{i:Nat}{K:VS→Prop}(h:A8 P X T l i s K):∃o v f lh',l[i]?=some o∧(eO P X T o (aN l o s) s.lh).Is v f s.lh lh'∧K (bK o v (s.turn f lh')):=by
 unfold A8 at h
 split at h
 ·exact h.elim
 ·rename_i o ho
  refine ⟨o,?_⟩
  split at h
  ·rename_i v hv
   rw [aR]at h
   exact ⟨v,none,s.lh,ho,by rw [hv];exact ⟨rfl,rfl,rfl⟩,h⟩
  ·rename_i p v hv
   rw [aR]at h
   exact ⟨v,none,s.lh,ho,by rw [hv];exact ⟨h.1,rfl,rfl,rfl⟩,h.2⟩
  ·rename_i v f lh' hv
   rw [aR]at h
   exact ⟨v,f,lh',ho,by rw [hv];exact ⟨rfl,rfl,rfl⟩,h⟩
  ·rename_i p v f lh' hv
   rw [aR]at h
   exact ⟨v,f,lh',ho,by rw [hv];exact ⟨h.1,rfl,rfl,rfl⟩,h.2⟩
  ·exact h.elim
theorem wK:∀{l:List Nat} {F:Nat→Prop},J5 l F→∀i∈l,F i
 |[],F,h,i,hi=>by cases hi
 |[j],F,h,i,hi=>by
  rcases List.mem_cons.1 hi with rfl|hi
  ·exact h
  ·cases hi
 |j::q::l,F,h,i,hi=>by
  rcases List.mem_cons.1 hi with rfl|hi
  ·exact h.1
  ·exact wK (l:=q::l) h.2 i hi
theorem ez {l:List Oper}(h:iu l=true){i:Nat}{o:Oper}(ho:l[i]?=some o):o.guard=none∧(∀c x y,o.op≠.pick c x y)∧∀cs b,o.op≠.select cs b:=by
 have:=List.all_eq_true.1 h o (List.mem_of_getElem? ho)
 rw [Bool.and_eq_true]at this
 obtain ⟨h1,h2⟩:=this
 refine ⟨?_,fun c x y e=>?_,fun cs b e=>?_⟩
 ·cases hg:o.guard with
  |none=>rfl
  |some g=>rw [hg]at h1;cases h1
 ·rw [e]at h2;cases h2
 ·rw [e]at h2;cases h2
theorem Kl(ops:Array Oper)(listed:Array Bool):J4 ops.toList listed.toList=Region.ready .any ops listed:=by
 have e1:∀(i:Nat) (d:Bool),listed.toList.getD i d=listed.getD i d:=fun i d=>by simp [List.getD_eq_getElem?_getD,Array.getD_eq_getD_getElem?]
 unfold J4 Region.ready
 rw [Array.length_toList]
 congr 1
 funext i
 rw [Array.getElem?_toList,e1]
 cases ops[i]?with
 |none=>rfl
 |some o=>
  simp only [e1,Option.map_some,Option.getD_some,Array.all_toList]
theorem cj.JB(h:cj cx G ops N ops.size s a w)(hr:dD ops N)(hgl:iu ops.toList=true){i:Nat}{o:Oper}(ho:ops[i]?=some o){f:Option (PV→PV)}{lh':List (Nat×PV)}{G':Gh}{w':World}(tr:cP cx G w f lh' G' w'){v:PV}{u:Value}
 (hv:aQ v G' w' u):cj cx G' ops N ops.size (bK o v (s.turn f lh')) (a.put o.dst u) w':=by
 have gl:∀{i:Nat} {q:Oper},ops[i]?=some q→q.guard=none:=fun hq=>(ez hgl (by rw [Array.getElem?_toList];exact hq)).1
 refine ⟨by rw [iF.2,uD];exact tr.inv,fun t x hl he=>?_,fun t g x hl=>?_,fun i q hi hq b hy=>by rw [gl hq];trivial,by rw [jL];exact h.size,by rw [put_defers];exact h.defers⟩
 ·rw [eG]at hl
  split at hl
  ·cases hl
  ·rename_i hd
   rw [fq]at hl
   rw [iF.1,hH]at he
   rw [Option.map_eq_some_iff]at he
   obtain ⟨y,hy,rfl⟩:=he
   rw [dL hd]
   exact tr.rep _ _ (h.env t y (by simpa using hl) hy)
 ·rw [eG]at hl
  split at hl
  ·rename_i hd
   injection hl with hl;injection hl with h1 h2;subst h1;subst h2
   have hlt:t<a.tmps.size:=Nat.lt_of_lt_of_le (hr.lt i o t ho hd) h.size
   refine ⟨fun hg=>?_,i,o,(Array.getElem?_eq_some_iff.1 ho).1,ho,rfl,hd⟩
   rw [hd,jK hlt]
   exact hv
  ·rename_i hd
   rw [fq,Option.map_eq_some_iff]at hl
   obtain ⟨⟨g',y⟩,hy,e⟩:=hl
   injection e with e1 e2;subst e1;subst e2
   obtain ⟨h1,j,q,hi,hq,hg1,hd1⟩:=h.loc t g' y hy
   refine ⟨fun hg=>?_,j,q,hi,hq,hg1,hd1⟩
   rw [dL hd]
   refine tr.rep _ _ (h1 ?_)
   rw [←hg1,gl hq];trivial
theorem zj {i:Nat}{oi:Oper}{listed:Array Bool}(ho:ops[i]?=some oi)(h:y4 ops.toList listed.toList i=true):dY oi.op=true∧∀j oj,ops[j]?=some oj→j≠i→listed.getD j true=false→(∀e∈oj.after,Region.binds .any e=true→e.on≠i)→oi.apart ops oj=true:=by
 unfold y4 at h
 rw [Array.getElem?_toList,ho]at h
 dsimp only at h
 rw [Bool.and_eq_true]at h
 refine ⟨h.1,fun j oj hj hne hl haf=>?_⟩
 have:=List.all_eq_true.1 h.2 j (List.mem_range.2 (by rw [Array.length_toList];exact (Array.getElem?_eq_some_iff.1 hj).1))
 have e1:listed.toList.getD j true=listed.getD j true:=by simp [List.getD_eq_getElem?_getD,Array.getD_eq_getD_getElem?]
 have e0:Nat.beq j i=false:=by cases e:Nat.beq j i with |false=>rfl|true=>exact absurd (Nat.eq_of_beq_eq_true e) hne
 rw [e0,e1,hl,Array.getElem?_toList,hj,Bool.false_or,Bool.false_or]at this
 dsimp only at this
 rw [Bool.or_eq_true]at this
 rcases this with this|this
 ·obtain ⟨e,he,h2⟩:=List.any_eq_true.1 this
  rw [Bool.and_eq_true]at h2
  exact absurd (Nat.eq_of_beq_eq_true h2.2) (haf e (by simpa using he) h2.1)
 ·simpa using this
theorem uJ(hX:cS P T X)(hm:cx.m≤32)(hT:gg T cx)(hr:dD ops N)(hgl:iu ops.toList=true){K:VS→Prop}{Q:Exit→Act→World→Prop}(hP:∀c a w,¬Q (.panic c) a w)(hQ:∀G s a w,cj cx G ops N ops.size s a w→K s→Q .normal a w):
 ∀(n fuel:Nat) (listed:Array Bool) (s:VS) (G:Gh) (a:Act) (w:World),listed.size=ops.size→ky (kz listed) ops.size≤fuel→cj cx G ops N ops.size s a w→K2 P X T ops.toList n listed.toList s K→wpAny P .any ops Q fuel listed a w
 |0,_,_,_,_,_,_,_,_,_,he=>he.elim
 |n+1,fuel,listed,s,G,a,w,hsz,hc,hl,he=>by
  unfold K2 at he
  rw [Kl]at he
  have one:∀i∈Region.ready .any ops listed,i<ops.size∧kz listed i=false∧∃o,ops[i]?=some o:=fun i hi=>by
   obtain ⟨h1,h2,o,h3,-⟩:=qo hsz hi
   exact ⟨by omega,h2,o,h3⟩
  have less:∀f i,i<ops.size→kz listed i=false→ky (kz listed) ops.size≤f+1→ky (kz (listed.setIfInBounds i true)) ops.size≤f:=fun f i hi hno hf=>by
   rw [l6 (by omega)]
   have:=lZ hno ops.size
   rw [if_pos hi]at this
   omega
  have tl:∀i,(listed.setIfInBounds i true).toList=listed.toList.set i true:=fun i=>by simp
  split at he
  ·rename_i hnil
   cases fuel with
   |zero=>exact ⟨hnil,hQ G s a w hl he⟩
   |succ fuel=>exact ⟨fun _=>hQ G s a w hl he,fun i hi=>by rw [hnil]at hi;cases hi⟩
  ·rename_i hne
   cases fuel with
   |zero=>
    exfalso
    cases hrd:Region.ready .any ops listed with
    |nil=>exact hne hrd
    |cons i rs=>
     obtain ⟨h1,h2,-⟩:=one i (by rw [hrd];exact List.mem_cons_self ..)
     have:=kj (show ky (kz listed) ops.size=0 by omega) i h1
     rw [h2]at this;cases this
   |succ fuel=>
    split at he
    ·rename_i i hf
     have hi:=List.mem_of_find?_eq_some hf
     have hb:=List.find?_some hf
     obtain ⟨h1,h2,-⟩:=one i hi
     obtain ⟨o,v,f,lh',ho,hI,hK⟩:=wJ he
     rw [Array.getElem?_toList]at ho
     obtain ⟨hq,hfree⟩:=zj ho hb
     obtain ⟨g0,gp,gs⟩:=ez hgl (i:=i) (o:=o) (by rw [Array.getElem?_toList];exact ho)
     have hx:au (aN ops.toList o s) G w (o.op.operands.toList.map a.eval):=by
      have:aN ops.toList o s=o.op.operands.toList.map (bm ops.toList o.guard s):=by
       unfold aN
       split
       ·rename_i c x y e
        exact absurd e (gp c x y)
       ·rfl
      rw [this]
      exact hl.operands hr (fun j b e=>by rw [g0]at e;cases e) (by rw [g0];trivial) _
     obtain ⟨rfl,rfl,u,hv,hy⟩:=wI hl.inv hq hx (iZ hI)
     have hl':=hl.JB hr hgl ho (cP.refl hl.inv) hv
     refine wpAny_first (oi:=o) (v:=u) ho (fun j q cs b hj=>(ez hgl (i:=j) (o:=q) (by rw [Array.getElem?_toList];exact hj)).2.2 cs b) (fun c a w h=>absurd h (hP c _ w)) fuel listed a w hfree hi (.inl ⟨by unfold Region.wanted;rw [g0],hy⟩) ?_
     exact uJ hX hm hT hr hgl hP hQ n fuel _ _ _ _ _ (by simpa using hsz) (less fuel i h1 h2 hc) hl' (by rw [tl];exact hK)
    ·refine ⟨fun hnil=>absurd hnil hne,fun i hi=>?_⟩
     obtain ⟨h1,h2,-⟩:=one i hi
     obtain ⟨o,v,f,lh',ho,hI,hK⟩:=wJ (wK he i hi)
     rw [Array.getElem?_toList]at ho
     obtain ⟨g0,gp,gs⟩:=ez hgl (i:=i) (o:=o) (by rw [Array.getElem?_toList];exact ho)
     have hx:au (aN ops.toList o s) G w (o.op.operands.toList.map a.eval):=by
      have:aN ops.toList o s=o.op.operands.toList.map (bm ops.toList o.guard s):=by
       unfold aN
       split
       ·rename_i c x y e
        exact absurd e (gp c x y)
       ·rfl
      rw [this]
      exact hl.operands hr (fun j b e=>by rw [g0]at e;cases e) (by rw [g0];trivial) _
     unfold wpOp
     rw [ho]
     dsimp only
     rw [if_pos (by unfold Region.wanted;rw [g0])]
     left
     exact uC hX hl.inv hm hT gp hx hI _ _ fun G' w' u tr hv=>uJ hX hm hT hr hgl hP hQ n fuel _ _ _ _ _ (by simpa using hsz) (less fuel i h1 h2 hc) (hl.JB hr hgl ho tr hv) (by rw [tl];exact hK)
theorem Km(hmix:P.follows .mixedOrders=true)(hX:cS P T X)(hm:cx.m≤32)(hT:gg T cx)(of:eP ops N)(hgl:iu ops.toList=true){K:VS→Prop}{Q:Exit→Act→World→Prop}(hQ:∀G s a w,cj cx G ops N ops.size s a w→K s→Q .normal a w)(hl:s.loc=[])(h:cj cx G ops N 0 s a w){n:Nat}(he:K2 P X T ops.toList n (ops.toList.map fun _=>false) s K)(id:Nat):(Code.region id ops true).wp P Q a w:=by
 refine Code.wp_mono (Q:=fun e a w=>match e with |.panic _=>False|e=>Q e a w) (fun e a w hq=>by cases e<;>first|exact hq|exact hq.elim) ?_
 refine wp_region_any hmix ?_
 obtain ⟨i1,i2⟩:=h.inv.drew
 have hd:cj cx G ops N ops.size s a w.drew:=
  ⟨i1,fun t x g e=>i2 _ _ (h.env t x g e),(fun t g v hlk=>by rw [hl]at hlk;cases hlk),(fun i o hi ho b hy=>by rw [(ez hgl (i:=i) (o:=o) (by rw [Array.getElem?_toList];exact ho)).1];trivial),h.size,h.defers⟩
 have hnone:kz (Array.replicate ops.size false)=fun _=>false:=by
  funext j;unfold kz
  by_cases h:j<ops.size<;>simp [Array.getD,h]
 have hlist:(Array.replicate ops.size false).toList=ops.toList.map fun _=>false:=by
  rw [Array.toList_replicate,List.map_const',Array.length_toList]
 refine uJ (Q:=fun e a w=>match e with |.panic _=>False|e=>Q e a w) hX hm hT of.fit hgl (fun c a w h=>h) (fun G s a w hr hk=>hQ G s a w hr hk) n ops.size _ s G a w.drew Array.size_replicate ?_ hd (by rw [hlist];exact he)
 rw [hnone,kk];exact Nat.le_refl _
theorem E6(hmix:P.follows .mixedOrders=true)(hX:cS P T X)(hm:cx.m≤32)(hT:gg T cx)(of:eP ops N){K:VS→Prop}{Q:Exit→Act→World→Prop}(hQ:∀G s a w,cj cx G ops N ops.size s a w→K s→Q .normal a w)(hl:s.loc=[])(h:cj cx G ops N 0 s a w)(he:K3 P X T ops.toList (aT ops.toList) s K)(id:Nat):(Code.region id ops true).wp P Q a w:=by
 unfold K3 at he
 split at he
 ·rename_i hn
  unfold Jx at hn
  rw [Bool.and_eq_true]at hn
  exact Km hmix hX hm hT of hn.1 hQ hl h he id
 ·split at he
  ·exact Kk hmix hX hm hT of hQ hl h he id
  ·exact Ki hmix hX hm hT of hQ hl h he id
end
end
section
variable [Wd] {P:Program} {cx:Cx} {G:Gh} {w:World}
structure fv(cx:Cx)(G:Gh)(N:Nat)(s:VS)(a:Act)(w:World):Prop where
 inv:Inv cx G s.lh w
 env:∀t x,bP t s.env=some x→aQ x G w (a.tmps.getD t undef)
 loc:s.loc=[]
 size:N≤a.tmps.size
 defers:a.defers=[]
def Ll:Ex→Exit
 |.normal=>.normal
 |.exit id=>.exit id
 |.goto l=>.goto l
 |.ret=>.ret
def Wp(P:Program)(items:List Item)(Q:Exit→Act→World→Prop)(a:Act)(w:World):Prop:=
 ∀(b:Frame) (k:List Item) (cs:List Frame),∃e a' w',Q e a' w'∧Arrives P (lone (b.at a (items++k)) cs w) b k cs e a' w'
theorem Wp.step {items items':List Item}{Q:Exit→Act→World→Prop}{a:Act}{w:World}(hs:∀(b:Frame) (k:List Item) (cs:List Frame),Go.step P (lone (b.at a (items++k)) cs w)=.next (lone (b.at a (items'++k)) cs w))(h:Wp P items' Q a w):Wp P items Q a w:=by
 intro b k cs
 obtain ⟨e,a',w',hq,har⟩:=h b k cs
 exact ⟨e,a',w',hq,.of_steps (.one (hs b k cs)) har⟩
theorem Wp.then {c:Code}{x:Item}(hx:x.plain=true){Q:Exit→Act→World→Prop}{a:Act}{w:World}(h:c.wp P (fun e a' w'=>match e with |.normal=>Wp P [x] Q a' w'|e=>Q e a' w') a w):Wp P [.code c,x] Q a w:=by
 intro b k cs
 obtain ⟨e,a1,w1,hq,har⟩:=h b (x::k) cs
 cases e with
 |normal=>
  obtain ⟨e2,a2,w2,hq2,har2⟩:=hq b k cs
  exact ⟨e2,a2,w2,hq2,.of_steps har har2⟩
 |exit id=>exact ⟨_,a1,w1,hq,.pass (x:=x) hx (fun _ _=>.inl (by simp)) har⟩
 |goto l=>exact ⟨_,a1,w1,hq,.pass (x:=x) hx (fun _ _=>.inl (by simp)) har⟩
 |ret=>exact ⟨_,a1,w1,hq,.pass (x:=x) hx (fun _ _=>.inl (by simp)) har⟩
 |panic ch=>exact ⟨_,a1,w1,hq,.pass (x:=x) hx (fun _ _=>.inl (by simp)) har⟩
 |outgrown=>exact ⟨_,a1,w1,hq,.pass (x:=x) hx (fun _ _=>.inl (by simp)) har⟩
theorem Wp.scope {c c0:Code}{Q:Exit→Act→World→Prop}{a:Act}{w:World}(h:c0.wp P (fun e a' w'=>match e with
 |.goto l=>(∃rest,findLabel c l=some rest∧Wp P [.code rest,.inScope c] Q a' w')∨(findLabel c l=none∧Q (.goto l) a' w')
 |e=>Q e a' w') a w):Wp P [.code c0,.inScope c] Q a w:=by
 intro b k cs
 obtain ⟨e,a1,w1,hq,har⟩:=h b (.inScope c::k) cs
 cases e with
 |normal=>exact ⟨.normal,a1,w1,hq,Steps.trans har (.one step_inScope)⟩
 |exit id=>exact ⟨.exit id,a1,w1,hq,fun k' hk=>har k' (by simp [exitTo,hk])⟩
 |goto l=>
  rcases hq with⟨rest,hf,h2⟩|⟨hf,hq⟩
  ·obtain ⟨e2,a2,w2,hq2,har2⟩:=h2 b k cs
   exact ⟨e2,a2,w2,hq2,.of_steps (har _ (by simp [gotoIn,hf])) har2⟩
  ·exact ⟨.goto l,a1,w1,hq,fun k' hk=>har k' (by simp [gotoIn,hf,hk])⟩
 |ret=>exact ⟨_,a1,w1,hq,har⟩
 |panic ch=>exact ⟨_,a1,w1,hq,har⟩
 |outgrown=>exact ⟨_,a1,w1,hq,har⟩
theorem CR(t:Nat)(s:VS):bP t (ix s).env=(bP t s.env).map fun x=>match ct t s.loc with |some (none,v)=>v|some (some _,_)=>.undef|none=>x:=by
 unfold ix
 dsimp only
 induction s.env with
 |nil=>rfl
 |cons e l ih=>
  show(bif Nat.beq e.1 t then some _ else bP t (l.map _))=(bif Nat.beq e.1 t then some e.2 else bP t l).map _
  cases hb:Nat.beq e.1 t with
  |true=>
   have:=Nat.eq_of_beq_eq_true hb
   subst this
   rfl
  |false=>exact ih
theorem fv.begin {N:Nat}{s:VS}{a:Act}(h:fv cx G N s a w)(ops:Array Oper):cj cx G ops N 0 s a w:=
 ⟨h.inv,fun t x _ hx=>h.env t x hx,(fun t g v hl=>by rw [h.loc]at hl;cases hl),(fun i o hi=>by omega),h.size,h.defers⟩
theorem cj.finish {N k:Nat}{ops:Array Oper}{s:VS}{a:Act}(h:cj cx G ops N k s a w):fv cx G N (ix s) a w:=by
 refine ⟨h.inv,fun t x hx=>?_,rfl,h.size,h.defers⟩
 rw [CR,Option.map_eq_some_iff]at hx
 obtain ⟨y,hy,e⟩:=hx
 cases hl:ct t s.loc with
 |none=>
  rw [hl]at e
  rw [←show y=x from e]
  exact h.env t y hl hy
 |some p=>
  obtain ⟨g,v⟩:=p
  rw [hl]at e
  cases g with
  |none=>
   rw [←show v=x from e]
   exact (h.loc t none v hl).1 trivial
  |some q=>
   rw [←show PV.undef=x from e]
   trivial
theorem E7 {N:Nat}{s:VS}{a:Act}(h:fv cx G N s a w){c:Operand}{t:Bool}(hc:bm [] none s c=.bool t):a.eval c=.bool t:=by
 cases c with
 |tmp i=>
  unfold bm at hc
  dsimp only at hc
  rw [h.loc]at hc
  replace hc:(bP i s.env).getD .undef=.bool t:=hc
  cases he:bP i s.env with
  |none=>rw [he]at hc;cases hc
  |some x=>
   rw [he]at hc
   have:x=.bool t:=hc
   subst this
   exact h.env i _ he
 |const v=>
  replace hc:ofValue v=.bool t:=hc
  unfold ofValue at hc
  split at hc<;>first|(cases hc;done)|(injection hc with hc;subst hc;rfl)
 |global g=>cases hc
 |func f=>cases hc
theorem fv.drop {N:Nat}{a:Act}:∀{s:VS} (h:fv cx G N s a w) (ns:List Nat),fv cx G N (s.drop ns) a w
 |s,h,[]=>h
 |s,h,n::ns=>by
  refine fv.drop (s:=s.put n .undef) ⟨h.inv,fun t x hx=>?_,h.loc,h.size,h.defers⟩ ns
  replace hx:bP t (jx n .undef s.env)=some x:=hx
  rw [jF]at hx
  split at hx
  ·rw [Option.map_eq_some_iff]at hx
   obtain ⟨y,-,e⟩:=hx
   rw [←e];trivial
  ·exact h.env t x hx
theorem fv.still {N:Nat}{s:VS}{a:Act}(h:fv cx G N s a w)(us:List Nat):∃G',fv cx G' N (pQ us s) a w:=by
 cases us with
 |nil=>exact ⟨G,h⟩
 |cons u us=>
  obtain ⟨s1,s2⟩:=h.inv.turn (w':=w) (gD (u::us)) none rfl rfl rfl (Nat.le_refl _) (fun _ _ _=>rfl) (fun t b e=>by cases e)
  refine ⟨G.turn w (bO (u::us)) none,⟨?_,fun t x hx=>?_,?_,h.size,h.defers⟩⟩
  ·show Inv cx _ (s.turn (some (PV.aU (bO (u::us)))) (cz (PV.aU (bO (u::us))) s.lh)).lh w
   rw [uD];exact s1
  ·replace hx:bP t (s.turn (some (PV.aU (bO (u::us)))) (cz (PV.aU (bO (u::us))) s.lh)).env=some x:=hx
   rw [hH,Option.map_eq_some_iff]at hx
   obtain ⟨y,hy,rfl⟩:=hx
   exact s2 _ _ (h.env t y hy)
  ·show s.loc.map _=[]
   rw [h.loc];rfl
theorem uK {T:b7}{X:cq}{H:ba}{N:Nat}(hmix:P.follows .mixedOrders=true)(hX:cS P T X)(hm:cx.m≤32)(hT:gg T cx):∀fuel:Nat,
 (∀(c:Code) (s:VS) (k:JZ) (G:Gh) (a:Act) (w:World) (Q:Exit→Act→World→Prop),fv cx G N s a w→mU P X T H N fuel none c s k→(∀e G s a w,fv cx G N s a w→k e s→Q (Ll e) a w)→c.wp P Q a w)∧
 (∀(c0:Code) (C:Nat→Option (VS→Prop)) (c:Code) (s:VS) (k:JZ) (G:Gh) (a:Act) (w:World) (Q:Exit→Act→World→Prop),fv cx G N s a w→mU P X T H N fuel (some (c0,C)) c s k→(∀e G s a w,fv cx G N s a w→k e s→Q (Ll e) a w)→
   (∀l J,C l=some J→∀G s a w,fv cx G N s a w→J s→∃rest,findLabel c0 l=some rest∧Wp P [.code rest,.inScope c0] Q a w)→Wp P [.code c,.inScope c0] Q a w)
 |0=>⟨fun c s k G a w Q _ he _=>he.elim,fun c0 C c s k G a w Q _ he _ _=>he.elim⟩
 |fuel+1=>by
  obtain ⟨ihA,ihB⟩:=uK hmix hX hm hT fuel
  refine ⟨fun c s k G a w Q hr he hQ=>?_,fun c0 C c s k G a w Q hr he hQ hC=>?_⟩
  ·cases c with
   |skip=>exact wp_skip (hQ .normal G s a w hr he)
   |region id ops draw=>
    replace he:(match(generalizing:=false) draw,sG N ops.toList with
     |false,true=>fK P X T ops.toList ops.toList s fun s=>cX (ix s).env fun env=>cX s.lh fun lh=>k .normal ⟨[],env,lh⟩
     |true,true=>match pN ops.toList (aT ops.toList)with
      |true=>match H (2000000+id)with
       |some h=>(K3 P X T ops.toList (aT ops.toList) (pQ (iw ops.toList s) s) fun s'=>cX (ix s').env fun env=>cX s'.lh fun lh=>h.cut s ⟨[],env,lh⟩)∧∀x,h.inv s x→k .normal (h.at_ s x)
       |none=>K3 P X T ops.toList (aT ops.toList) (pQ (iw ops.toList s) s) fun s=>cX (ix s).env fun env=>cX s.lh fun lh=>k .normal ⟨[],env,lh⟩
      |false=>False
     |_,_=>False):=he
    split at he
    ·rename_i hreg
     refine wp_region_list ?_
     exact jM (K:=fun s=>cX (ix s).env fun env=>cX s.lh fun lh=>k .normal ⟨[],env,lh⟩) hX hm hT (EW hreg) (fun G s a w hl hk=>hQ .normal G _ a w hl.finish (by rw [fr,fr]at hk;exact hk)) ops.toList 0 s a w G (by simp) (Nat.zero_le _) (hr.begin ops) he
    ·rename_i hreg
     split at he
     ·rename_i hop
      obtain ⟨G',hr'⟩:=hr.still (iw ops.toList s)
      split at he
      ·rename_i h hh
       exact E6 (K:=fun s'=>cX (ix s').env fun env=>cX s'.lh fun lh=>h.cut s ⟨[],env,lh⟩) hmix hX hm hT (Lk hreg hop) (fun G s' a w hl hk=>by
        rw [fr,fr]at hk
        have hf:=hl.finish.drop h.dead
        rw [show(ix s').drop h.dead=_ from hk.1]at hf
        exact hQ .normal G _ a w hf (he.2 _ hk.2)) hr'.loc (hr'.begin ops) he.1 id
      ·exact E6 (K:=fun s=>cX (ix s).env fun env=>cX s.lh fun lh=>k .normal ⟨[],env,lh⟩) hmix hX hm hT (Lk hreg hop) (fun G s a w hl hk=>hQ .normal G _ a w hl.finish (by rw [fr,fr]at hk;exact hk)) hr'.loc (hr'.begin ops) he id
     ·exact he.elim
    ·exact he.elim
   |seq x y=>
    replace he:mU P X T H N fuel none x s fun e s=>match e with
     |.normal=>mU P X T H N fuel none y s k
     |e=>k e s:=he
    refine wp_seq (ihA x s _ G a w _ hr he fun e G s a w hr he=>?_)
    cases e with
    |normal=>exact ihA y s k G a w Q hr he hQ
    |exit id=>exact hQ _ G s a w hr he
    |goto l=>exact hQ _ G s a w hr he
    |ret=>exact hQ _ G s a w hr he
   |cond c x y=>
    replace he:y5 (bm [] none s c) (mU P X T H N fuel none x s k) (mU P X T H N fuel none y s k):=he
    unfold y5 at he
    split at he
    ·rename_i t hc
     exact wp_cond_split (E7 hr hc) (fun ht=>ihA x s k G a w Q hr (he.1 ht) hQ) (fun ht=>ihA y s k G a w Q hr (he.2 ht) hQ)
    ·exact he.elim
   |block id x=>
    replace he:mU P X T H N fuel none x s fun e s=>match e with
     |.exit i=>bif Nat.beq i id then k .normal s else k (.exit i) s
     |e=>k e s:=he
    refine wp_block (ihA x s _ G a w _ hr he fun e G s a w hr he=>?_)
    cases e with
    |normal=>exact hQ _ G s a w hr he
    |exit i=>
     show(if i=id then _ else _)
     replace he:(bif Nat.beq i id then k .normal s else k (.exit i) s):=he
     by_cases e:i=id
     ·subst e
      rw [Nat.beq_refl]at he
      rw [if_pos rfl]
      exact hQ .normal G s a w hr he
     ·rw [show Nat.beq i id=false by rw [Bool.eq_false_iff];exact fun hh=>e (Nat.eq_of_beq_eq_true hh)]at he
      rw [if_neg e]
      exact hQ (.exit i) G s a w hr he
    |goto l=>exact hQ _ G s a w hr he
    |ret=>exact hQ _ G s a w hr he
   |loop x=>
    replace he:(match H (iT x)with
     |some h=>h.into s fun n s'=>mU P X T H N fuel none x s' fun e s''=>match e with
      |.normal=>h.back s n s''
      |e=>k e s''
     |none=>False):=he
    split at he
    ·rename_i h hh
     obtain ⟨hs,hi0,hb⟩:=he
     have key:∀n,∀y,h.mu s y=n→h.inv s y→∀G a w,fv cx G N (h.at_ s y) a w→Wp P [.code x,.inLoop x] Q a w:=by
      intro n
      induction n using Nat.strongRecOn with
      |_ n ih=>
       intro y hn hy G a w hr
       refine Wp.then rfl (ihA x _ _ G a w _ hr (hb y hy) fun e G s' a w hr he=>?_)
       cases e with
       |normal=>
        obtain ⟨hs',hz,hlt⟩:=he
        replace hr:=hr.drop h.dead
        rw [hs']at hr
        exact Wp.step (items':=[.code x,.inLoop x]) (fun b k cs=>step_inLoop) (ih _ (by rw [←hn];exact hlt) _ rfl hz G a w hr)
       |exit id=>exact hQ _ G s' a w hr he
       |goto l=>exact hQ _ G s' a w hr he
       |ret=>exact hQ _ G s' a w hr he
     have:=key _ _ rfl hi0 G a w (by rw [←hs];exact hr.drop h.dead)
     show Wp P [.code (.loop x)] Q a w
     exact Wp.step (items':=[.code x,.inLoop x]) (fun b k cs=>step_loop) this
    ·exact he.elim
   |exit id=>exact wp_exit (hQ (.exit id) G s a w hr he)
   |scope x=>
    have:=ihB x (fun _=>none) x s k G a w Q hr he hQ (fun l J hJ=>by cases hJ)
    show Wp P [.code (.scope x)] Q a w
    exact Wp.step (items':=[.code x,.inScope x]) (fun b k cs=>step_scope) this
   |label l=>exact wp_label (hQ .normal G s a w hr he)
   |goto l=>exact wp_goto (hQ (.goto l) G s a w hr he)
   |ret=>exact wp_ret (hQ .ret G s a w hr he)
   |rangeFunc _ _ _ _=>exact he.elim
   |refuse _=>exact he.elim
  ·replace he:mU P X T H N fuel none c s fun e s=>match e with
    |.goto l=>match C l with
     |some J=>J s
     |none=>match findLabel c0 l with
      |none=>k (.goto l) s
      |some r=>match H (1000000+l)with
       |some h=>h.into s fun n s'=>mU P X T H N fuel (some (c0,fun l'=>bif Nat.beq l' l then some (h.back s n)else C l')) r s' k
       |none=>mU P X T H N fuel (some (c0,C)) r s k
    |e=>k e s:=he
   refine Wp.scope (ihA c s _ G a w _ hr he fun e G s a w hr he=>?_)
   cases e with
   |normal=>exact hQ _ G s a w hr he
   |exit id=>exact hQ _ G s a w hr he
   |ret=>exact hQ _ G s a w hr he
   |goto l=>
    replace he:(match C l with
     |some J=>J s
     |none=>match findLabel c0 l with
      |none=>k (.goto l) s
      |some r=>match H (1000000+l)with
       |some h=>h.into s fun n s'=>mU P X T H N fuel (some (c0,fun l'=>bif Nat.beq l' l then some (h.back s n)else C l')) r s' k
       |none=>mU P X T H N fuel (some (c0,C)) r s k):=he
    split at he
    ·rename_i J hJ
     exact .inl (hC l J hJ G s a w hr he)
    ·rename_i hCl
     split at he
     ·rename_i hf
      exact .inr ⟨hf,hQ (.goto l) G s a w hr he⟩
     ·rename_i r hf
      split at he
      ·rename_i h hh
       obtain ⟨hs,hi0,hb⟩:=he
       have key:∀n,∀y,h.mu s y=n→h.inv s y→∀G a w,fv cx G N (h.at_ s y) a w→Wp P [.code r,.inScope c0] Q a w:=by
        intro n
        induction n using Nat.strongRecOn with
        |_ n ih=>
         intro y hn hy G a w hr
         refine ihB c0 _ r _ k G a w Q hr (hb y hy) hQ fun l' J hJ G s' a w hr hj=>?_
         replace hJ:(bif Nat.beq l' l then some (h.back s y)else C l')=some J:=hJ
         cases hb':Nat.beq l' l with
         |true=>
          rw [hb']at hJ
          injection hJ with hJ;subst hJ
          obtain ⟨hs',hz,hlt⟩:=hj
          replace hr:=hr.drop h.dead
          rw [hs']at hr
          rw [Nat.eq_of_beq_eq_true hb']
          exact ⟨r,hf,ih _ (by rw [←hn];exact hlt) _ rfl hz G a w hr⟩
         |false=>
          rw [hb']at hJ
          exact hC l' J hJ G s' a w hr hj
       exact .inl ⟨r,hf,key _ _ rfl hi0 G a w (by rw [←hs];exact hr.drop h.dead)⟩
      ·exact .inl ⟨r,hf,ihB c0 C r s k G a w Q hr he hQ hC⟩
end
section
variable [Wd] {P:Program} {cx:Cx} {G:Gh} {w:World}
def uL(tmps:Array Value)(r:ResultVar):Sem Value:=match r with
 |.tmp t=>Pure.pure (tmps.getD t undef)
 |.cell a t=>do loadVar t (←asAddr (tmps.getD a undef))
theorem zk(fn:Func)(tmps:Array Value):results fn tmps=(do let vs←fn.results.mapM (uL tmps);Pure.pure (if h:vs.size=1 then vs[0]else .tuple vs)):=rfl
theorem HW {T:b7}(hT:kY T cx.F0){N:Nat}{s:VS}{a:Act}(h:fv cx G N s a w){r:ResultVar}{v:PV}(hv:J8 P T s r=some v):∃u,(uL a.tmps r).run P w=.ok u w∧aQ v G w u:=by
 unfold J8 at hv
 split at hv
 ·rename_i t
  injection hv with hv;subst hv
  refine ⟨_,rfl,?_⟩
  cases he:bP t s.env with
  |none=>trivial
  |some x=>exact h.env t x he
 ·rename_i t ty
  split at hv
  ·rename_i n off he
   split at hv
   ·rename_i x hl
    injection hv with hv;subst hv
    obtain ⟨b,h1,h2⟩:=h.env t _ he
    obtain ⟨u,r1,r2⟩:=wB (P:=P) h.inv hT (t:=ty) (x:=.ptr n off) (.inl hl) (show aQ (.ptr n off) G w _ from⟨b,h1,h2⟩)
    refine ⟨u,?_,r2⟩
    show(do loadVar ty (←asAddr (a.tmps.getD t undef)):Sem Value).run P w=_
    rw [h2]at r1⊢
    simpa [asAddr,Instr.loadAt,Instr.sureAddr]using r1
   ·cases hv
  ·cases hv
theorem qA {T:b7}(hT:kY T cx.F0){N:Nat}{s:VS}{a:Act}(h:fv cx G N s a w):∀{rs:List ResultVar} {xs:List PV},wk P T s rs=some xs→∃us:List Value,(rs.mapM (uL a.tmps)).run P w=.ok us w∧au xs G w us
 |[],xs,hv=>by
  unfold wk at hv;injection hv with hv;subst hv
  exact ⟨[],rfl,rfl⟩
 |r::rs,xs,hv=>by
  unfold wk at hv
  split at hv
  ·rename_i y ys h1 h2
   injection hv with hv;subst hv
   obtain ⟨u,r1,r2⟩:=HW hT h h1
   obtain ⟨us,r3,r4⟩:=qA hT h h2
   refine ⟨u::us,?_,u,us,rfl,r2,r4⟩
   rw [List.mapM_cons,Sem.run_bind,r1,Result.andThen_ok,Sem.run_bind,r3];rfl
  ·cases hv
theorem la {T:b7}(hT:kY T cx.F0){N:Nat}{s:VS}{a:Act}(h:fv cx G N s a w){fn:Func}{v:PV}(hv:cN P T s fn.results.toList=some v):∃u,(results fn a.tmps).run P w=.ok u w∧aQ v G w u:=by
 have gen:∀(us:List Value),((fn.results.toList.mapM (uL a.tmps)).run P w=.ok us w)→
  (results fn a.tmps).run P w=.ok (if h:us.toArray.size=1 then us.toArray[0]else .tuple us.toArray) w:=by
  intro us hu
  rw [zk]
  simp only [Array.mapM_eq_mapM_toList,Sem.run_bind,Sem.run_map]
  rw [hu]
  rfl
 unfold cN at hv
 split at hv
 ·rename_i x hx
  injection hv with hv;subst hv
  obtain ⟨us,r1,r2⟩:=qA hT h hx
  obtain ⟨u,us',rfl,h1,h2⟩:=r2
  obtain rfl:us'=[]:=h2
  exact ⟨u,by rw [gen _ r1];rfl,h1⟩
 ·rename_i xs hne hx
  injection hv with hv;subst hv
  obtain ⟨us,r1,r2⟩:=qA hT h hx
  refine ⟨.tuple us.toArray,?_,us,r2,rfl⟩
  rw [gen _ r1,dif_neg]
  intro h1
  have h2:us.length=1:=by simpa using h1
  have h3:=r2.length
  match xs,(by omega:xs.length=1)with
  |[x],_=>exact hne x rfl
 ·cases hv
theorem kn {xs:List PV}{t:Nat}{x:PV}:∀{ts:List Nat},bP t (gB xs ts)=some x→x=xs.getD t .undef
 |[],h=>by cases h
 |u::ts,h=>by
  replace h:(bif Nat.beq u t then some (xs.getD u .undef)else bP t (gB xs ts))=some x:=h
  cases hb:Nat.beq u t with
  |true=>
   rw [hb]at h
   have:=Nat.eq_of_beq_eq_true hb
   subst this
   injection h with h;exact h.symm
  |false=>rw [hb]at h;exact kn h
theorem Inv.bare {F:Nat→Nat→Option Value}(h:Fits F w):Inv ⟨[],w,F,0,fun _=>none⟩ (gO F) [] w:=
 ⟨h,fh.refl _,fun b o u hu=>.inl hu,(fun n x hx=>by cases hx),(fun n b hb=>by cases hb),(fun t b ht=>by cases ht),(fun n n' b hb=>by cases hb),(fun t t' b ht=>by cases ht),(fun n t b hb=>by cases hb),(fun i hi=>by cases hi),⟨rfl,rfl,rfl,Nat.le_refl _,fun _ _ _=>rfl⟩⟩
theorem b5 {T:b7}{X:cq}{H:ba}{fuel:Nat}{f:FuncId}{fn:Func}(hmix:P.follows .mixedOrders=true)(hX:cS P T X)(hf:P.funcs[f]?=some fn)(hn:(fn.name== "runtime.NumGoroutine")=false){xs:List PV}{r:PV}{pre:Prop}
 (he:pre→cD P X T H fuel fn xs fun v=>v=r)(hnm:PV.aB PV.bD xs=[]:=by rfl):ag P T f xs ⟨pre,r⟩:=by
 refine .lV hnm ?_
 intro hpre F w vs hfits htab hwd hx
 have he:=he hpre
 unfold cD at he
 cases hb:fn.body with
 |none=>rw [hb]at he;exact he.elim
 |some c=>
  rw [hb]at he
  replace he:mU P X T H fn.ntmps fuel none c ⟨[],gB xs (slotsOf (ow fn) fn.ntmps),[]⟩ (fun e s=>match e with
   |.normal=>Cu (cN P T s fn.results.toList) fun v=>v=r
   |.ret=>Cu (cN P T s fn.results.toList) fun v=>v=r
   |_=>False):=he
  left
  refine ⟨?_,?_⟩
  ·unfold callFunc
   simp only [Sem.run_bind,run_program,Result.andThen_ok,hf]
   rw [hn]
   simp [hb]
  ·refine calls_of_wp hf hb ?_
   have hlen:=hx.length
   have hrel:fv ⟨[],w,F,0,fun _=>none⟩ (gO F) fn.ntmps ⟨[],gB xs (slotsOf (ow fn) fn.ntmps),[]⟩ {tmps:=vs.toArray++Array.replicate (fn.ntmps-vs.toArray.size) undef,defers:=[]} w:=by
    refine ⟨Inv.bare hfits,fun t x ht=>?_,rfl,by simp;omega,rfl⟩
    have:=kn ht
    subst this
    by_cases hlt:t<xs.length
    ·have hg:xs[t]?=some (xs.getD t .undef):=by rw [List.getD,List.getElem?_eq_getElem hlt];rfl
     obtain ⟨u,u1,u2⟩:=hx.get hg
     have hlt2:t<vs.length:=by omega
     have:(vs.toArray++Array.replicate (fn.ntmps-vs.toArray.size) undef).getD t undef=u:=by
      rw [List.getElem?_eq_getElem hlt2]at u1
      injection u1 with u1
      rw [Array.getD_eq_getD_getElem?,Array.getElem?_append_left (by simpa using hlt2)]
      rw [List.getElem?_toArray,List.getElem?_eq_getElem hlt2,u1]
      rfl
     show aQ _ _ _ ((vs.toArray++Array.replicate (fn.ntmps-vs.toArray.size) undef).getD t undef)
     rw [this];exact u2
    ·have:xs.getD t .undef=.undef:=by rw [List.getD,List.getElem?_eq_none (by omega)];rfl
     rw [this];trivial
   have fin:∀G s (a:Act) w',fv ⟨[],w,F,0,fun _=>none⟩ G fn.ntmps s a w'→Cu (cN P T s fn.results.toList) (fun v=>v=r)→a.defers=[]∧∃u,(results fn a.tmps).run P w'=.ok u w'∧∃v,Ending.returned u=.returned v∧Came F w r v w':=by
    intro G s a w' hr ho
    unfold Cu at ho
    split at ho
    ·rename_i r0 hr0
     rw [aR]at ho
     split at ho
     ·rename_i hnam
      obtain ⟨u,g1,g2⟩:=la (cx:=⟨[],w,F,0,fun _=>none⟩) htab hr hr0
      refine ⟨hr.defers,u,g1,u,rfl,?_⟩
      obtain ⟨s1,s2⟩:=hr.inv.turn (w':=w') (gD (bc [] (PV.dm PV.bu r0))) none rfl rfl rfl (Nat.le_refl _) (fun _ _ _=>rfl) (fun t b e=>by cases e)
      have h2:=s2 _ _ g2
      have hag:r0.ck (PV.aU (bO (bc [] (PV.dm PV.bu r0))))=r0.ck (PV.aU cV):=by
       refine iX (fun y=>y.bu=[]∨∀t∈y.bu,t∈bc [] (PV.dm PV.bu r0)) (fun y _ hp=>iY hp) (fun y _ ht=>?_)
       rcases ht with h1|h1
       ·exact .inl h1
       ·exact .inr fun t htm=>(eF (PV.dm PV.bu r0) []).2 t (h1 t htm)
      rw [hag]at h2
      obtain ⟨b1,b2⟩:=lW r0
      have h3:=aQ.dZ b1 (by rw [b2];exact hnam) h2
      rw [ho]at h3
      refine ⟨(G.turn w' (bO (bc [] (PV.dm PV.bu r0))) none).F,fun _=>none,⟨s1.kept.os,s1.kept.tape,s1.kept.output,s1.kept.size,fun k hk=>s1.kept.block k hk (by simp)⟩,s1.base,s1.fits,fun b o u hu=>?_,(fun t b e=>by cases e),h3⟩
      rcases s1.ext b o u hu with h4|h4
      ·exact .inl h4
      ·rcases h4 with h4|h4
       ·cases h4
       ·exact .inr h4
     ·exact ho.elim
    ·exact ho.elim
   refine (uK hmix hX (by show 0≤32;omega) (show gg T ⟨[],w,F,0,fun _=>none⟩from⟨htab,fun b hb=>(by cases hb),hwd⟩) fuel).1 c _ _ (gO F) _ w _ hrel he fun e G s a w' hr hk=>?_
   cases e with
   |normal=>exact fin G s a w' hr hk
   |ret=>exact fin G s a w' hr hk
   |exit i=>exact hk.elim
   |goto l=>exact hk.elim
end
section
variable [Wd] {P:Program} {T:b7}
def bR:List (FuncId×(List PV→Option aI))→cq
 |[],_,_=>none
 |e::l,f,xs=>bif Nat.beq e.1 f then(match e.2 xs with |some c=>some c|none=>bR l f xs)else bR l f xs
theorem ax:cS P T (bR []):=fun f xs c h=>by cases h
theorem ai {f:FuncId}{g:List PV→Option aI}{l:List (FuncId×(List PV→Option aI))}(h:∀xs c,g xs=some c→ag P T f xs c)(hl:cS P T (bR l)):cS P T (bR ((f,g)::l)):=fun f' xs c hc=>by
 replace hc:(bif Nat.beq f f' then(match g xs with |some c=>some c|none=>bR l f' xs)else bR l f' xs)=some c:=hc
 cases hb:Nat.beq f f' with
 |true=>
  rw [hb]at hc
  cases hg:g xs with
  |none=>rw [hg]at hc;exact hl f' xs c hc
  |some c'=>
   rw [hg]at hc
   injection hc with hc;subst hc
   rw [←Nat.eq_of_beq_eq_true hb]
   exact h xs c' hg
 |false=>rw [hb]at hc;exact hl f' xs c hc
theorem nA {f:FuncId}{fn:Func}{c:Code}(hf:P.funcs[f]?=some fn)(hn:(fn.name== "runtime.NumGoroutine")=false)(hb:fn.body=some c)(vs:Array Value)(w:World):(callFunc f vs).run P w=.ok (.enter f vs) w:=by
 unfold callFunc
 simp only [Sem.run_bind,run_program,Result.andThen_ok,hf]
 rw [hn]
 simp [hb]
theorem ag.b9 {f:FuncId}{fn:Func}{c:Code}(hf:P.funcs[f]?=some fn)(hn:(fn.name== "runtime.NumGoroutine")=false)(hb:fn.body=some c){xs:List PV}{r:PV}{pre:Prop}
 (h:pre→∀(F:Nat→Nat→Option Value) (w:World) (vs:List Value),Fits F w→kY T F→Wd.wd w→au xs (gO F) w vs→∃u,(Calls P f vs.toArray w fun e w'=>e=.returned u∧Below w.heap.size w w')∧∀G w,aQ r G w u)(hnm:PV.aB PV.bD xs=[]:=by rfl):ag P T f xs ⟨pre,r⟩:=by
 refine .lV hnm ?_
 intro hpre F w vs hF hT hwd hx
 obtain ⟨u,h1,h2⟩:=h hpre F w vs hF hT hwd hx
 refine .inl ⟨nA hf hn hb _ w,h1.mono fun e w' he=>?_⟩
 obtain ⟨rfl,hb⟩:=he
 exact ⟨u,rfl,F,fun _=>none,hb,fh.refl _,fun b o q hq=>by
  have:=hF b o q hq
  rw [hb.cell (p:=⟨b,o,none⟩) (fD this)];exact this,fun b o q hq=>.inl hq,(fun t b e=>by cases e),h2 _ _⟩
theorem ag.walk {f:FuncId}{fn:Func}{c:Code}(hf:P.funcs[f]?=some fn)(hn:(fn.name== "runtime.NumGoroutine")=false)(hb:fn.body=some c){xs:List PV}{r:PV}{pre:Prop}(h:ag P T f xs ⟨pre,r⟩)(hp:pre)
 {F:Nat→Nat→Option Value}{w:World}{vs:List Value}(hF:Fits F w)(hT:kY T F)(hwd:Wd.wd w)(hx:au xs (gO F) w vs)(hnm:PV.aB PV.bD xs=[]:=by rfl):Calls P f vs.toArray w fun e w'=>∃u,e=.returned u∧Came F w r u w':=by
 rcases h.plain hnm hp F w vs hF hT hwd hx with⟨-,h2⟩|⟨u,w',h1,-⟩
 ·exact h2
 ·rw [nA hf hn hb]at h1;cases h1
def aA:b7:=fun _=>.undef
theorem zl(F:Nat→Nat→Option Value):kY aA F:=fun g hg=>by cases hg
theorem s6(w:World):Fits (fun _ _=>none) w:=fun b o u h=>by cases h
theorem ag.yes {f:FuncId}{fn:Func}{c:Code}(hf:P.funcs[f]?=some fn)(hn:(fn.name== "runtime.NumGoroutine")=false)(hb:fn.body=some c){xs:List PV}(h:ag P aA f xs ⟨True,.bool true⟩)
 {w:World}{vs:List Value}(hwd:Wd.wd w)(hx:au xs (gO fun _ _=>none) w vs)(hnm:PV.aB PV.bD xs=[]:=by rfl):Calls P f vs.toArray w fun e w'=>e=.returned (.bool true)∧Below w.heap.size w w':=
 (h.walk hf hn hb trivial (s6 w) (zl _) hwd hx hnm).mono fun e w' ⟨u,he,F',τ',hb,_,_,_,_,hr⟩=>⟨by rw [he];exact congrArg _ hr,hb⟩
theorem ag.to {f:FuncId}{xs:List PV}{c:aI}{pre:Prop}{r:PV}(h:ag P T f xs c)(hp:pre→c.pre)(hr:pre→c.r=r)(hnm:PV.aB PV.bD xs=[]:=by rfl):ag P T f xs ⟨pre,r⟩:=.lV hnm fun hpre F w vs hF hT hwd hx=>by
 have:=h.plain hnm (hp hpre) F w vs hF hT hwd hx
 rw [hr hpre]at this
 exact this
end
end Go.Vc
namespace Go.Vc
theorem gS(l:Bs)(z:Int):0≤ak l z∧ak l z≤255:=by
 unfold ak
 have:=(l.getD z.toNat 0).toNat_lt
 omega
theorem E8 {α:Type}{L:List α}{i n:Nat}{z b:α}(hn:n=L.length)(hb:L[i]?=some b):(L.take i++List.replicate (n-i) z).set i b=L.take (i+1)++List.replicate (n-(i+1)) z:=by
 have hi:i<L.length:=(List.getElem?_eq_some_iff.1 hb).1
 have h1:(L.take i).length=i:=by rw [List.length_take];omega
 rw [List.set_append,if_neg (by omega),h1,Nat.sub_self,show n-i=(n-(i+1))+1 by omega,List.replicate_succ,List.set_cons_zero,List.take_add_one,hb]
 simp
theorem jO(l:Bs)(z:Int):bo (ak l z)=l.getD z.toNat 0:=by
 unfold bo ak
 simp
end Go.Vc
namespace Go.Vc
open Go.RowKit
section
variable [Wd] {P:Program} {cx:Cx} {G:Gh} {lh:List (Nat×PV)} {w:World}
def fZ:Nat→List PV→List (Nat×PV)
 |_,[]=>[]
 |i,x::l=>(i,x)::fZ (i+1) l
def Bm(k n:Nat):Option Nat:=bif Nat.blt n k then some n else none
def py(m:Nat):List PV→(List PV→Prop)→Prop
 |[],k=>k []
 |x::l,k=>bJ m x fun x=>py m l fun l=>k (x::l)
def Kn(k:Nat)(lh:List (Nat×PV))(K:List PV→Prop):Prop:=match lN lh (List.range k)with
 |some cs=>py 6 cs fun cs=>match Nat.blt (bc [] (PV.aB PV.bu cs)).length 60 with
  |true=>K (PV.bg (PV.et (Bm k) (yU (bc [] (PV.aB PV.bu cs)))) cs)
  |false=>False
 |none=>False
def kH(k:Nat)(lh:List (Nat×PV))(r:Option PV)(K:PV→List PV→Prop):Prop:=match r with
 |some r=>bJ 4 r fun r=>match PV.dm PV.bD r with
  |[]=>Kn k (cz (PV.aU (bO (bc [] (PV.dm PV.bu r)))) lh) fun outs=>K (r.ck (PV.aU cV)) outs
  |_=>False
 |none=>False
def bQ(P:Program)(X:cq)(T:b7)(H:ba)(fuel:Nat)(fn:Func)(args ins:List PV)(K:PV→List PV→Prop):Prop:=
 match fn.body with
 |none=>False
 |some c=>mU P X T H fn.ntmps fuel none c ⟨[],gB args (slotsOf (ow fn) fn.ntmps),fZ 0 ins⟩ fun e s=>match e with
  |.normal=>kH ins.length s.lh (cN P T s fn.results.toList) K
  |.ret=>kH ins.length s.lh (cN P T s fn.results.toList) K
  |_=>False
theorem fO:∀{ins:List PV} {i n:Nat},bP n (fZ i ins)=if i≤n then ins[n-i]?else none
 |[],i,n=>by simp [fZ,bP]
 |x::l,i,n=>by
  show(bif Nat.beq i n then some x else bP n (fZ (i+1) l))=_
  by_cases e:i=n
  ·subst e;simp
  ·have:Nat.beq i n=false:=by rw [Bool.eq_false_iff];exact fun h=>e (Nat.eq_of_beq_eq_true h)
   rw [this]
   show bP n (fZ (i+1) l)=_
   rw [fO]
   by_cases h:i≤n
   ·rw [if_pos (by omega),if_pos h,show n-i=(n-(i+1))+1 by omega];rfl
   ·rw [if_neg (by omega),if_neg h]
theorem ld(m:Nat):∀(l:List PV) (k:List PV→Prop),py m l k=k l
 |[],k=>rfl
 |x::l,k=>by
  show bJ m x (fun x=>py m l fun l=>k (x::l))=_
  rw [aR,ld m l]
theorem bH {T:b7}{X:cq}{H:ba}{fuel:Nat}{f:FuncId}{fn:Func}(hmix:P.follows .mixedOrders=true)(hX:cS P T X)(hf:P.funcs[f]?=some fn)(hn:(fn.name== "runtime.NumGoroutine")=false){args ins:List PV}{r:PV}{outs:List PV}{pre:Prop}
 (h32:ins.length≤32)(he:pre→bQ P X T H fuel fn args ins fun v os=>v=r∧os=outs):br P T f args ins pre r outs:=by
 intro hpre F w vs bs τ hfits htab hwd hlb hlτ hl hx
 have he:=he hpre
 unfold bQ at he
 cases hb:fn.body with
 |none=>rw [hb]at he;exact he.elim
 |some c=>
  rw [hb]at he
  replace he:mU P X T H fn.ntmps fuel none c ⟨[],gB args (slotsOf (ow fn) fn.ntmps),fZ 0 ins⟩ (fun e s=>match e with
   |.normal=>kH ins.length s.lh (cN P T s fn.results.toList) fun v os=>v=r∧os=outs
   |.ret=>kH ins.length s.lh (cN P T s fn.results.toList) fun v os=>v=r∧os=outs
   |_=>False):=he
  left
  refine ⟨?_,?_⟩
  ·unfold callFunc
   simp only [Sem.run_bind,run_program,Result.andThen_ok,hf]
   rw [hn]
   simp [hb]
  ·refine calls_of_wp hf hb ?_
   have hlen:=hx.length
   obtain ⟨cx,hcx⟩:∃cx:Cx,cx=⟨bs++(List.range 64).filterMap τ,w,F,ins.length,fun i=>bs[i]?⟩:=⟨_,rfl⟩
   have hps:∀b,b∈cx.ps↔b∈bs∨∃t,τ t=some b:=fun b=>by
    rw [hcx]
    show b∈bs++_ ↔_
    rw [List.mem_append,List.mem_filterMap]
    refine or_congr Iff.rfl ⟨fun⟨t,_,h⟩=>⟨t,h⟩,fun⟨t,h⟩=>⟨t,by have:=(hl.mks t b h).2.1;simpa using this,h⟩⟩
   have hw0:cx.w0=w:=by rw [hcx]
   have hF0:cx.F0=F:=by rw [hcx]
   have hm0:cx.m=ins.length:=by rw [hcx]
   have hσ0:∀i,cx.σ0 i=bs[i]?:=fun i=>by rw [hcx]
   have hinv:Inv cx ⟨fun i=>bs[i]?,τ,F⟩ (fZ 0 ins) w:=by
    refine ⟨hfits,by rw [hF0];exact fh.refl _,fun b o u hu=>.inl (by rw [hF0];exact hu),fun n x hx=>?_,fun n b hb=>?_,fun t b ht=>?_,hl.nd,hl.inj,fun n t b hb ht=>(hl.mks t b ht).2.2.2.2 (List.mem_of_getElem? hb),fun i hi=>(hσ0 i).symm,⟨by rw [hw0],by rw [hw0],by rw [hw0],by rw [hw0];exact Nat.le_refl _,fun _ _ _=>by rw [hw0]⟩⟩
    ·rw [fO,if_pos (Nat.zero_le n),Nat.sub_zero]at hx
     exact hl.box n x hx
    ·have hlt:n<ins.length:=by rw [←hl.len];exact (List.getElem?_eq_some_iff.1 hb).1
     refine ⟨⟨ins[n],by rw [fO,if_pos (Nat.zero_le n),Nat.sub_zero];exact List.getElem?_eq_getElem hlt⟩,hl.bF b (List.mem_of_getElem? hb),.inl ((hps b).2 (.inl (List.mem_of_getElem? hb)))⟩
    ·obtain ⟨h1,h2,h3,h4,h5⟩:=hl.mks t b ht
     exact ⟨h1,h3,h4,.inl ((hps b).2 (.inr ⟨t,ht⟩))⟩
   have hrel:fv cx ⟨fun i=>bs[i]?,τ,F⟩ fn.ntmps ⟨[],gB args (slotsOf (ow fn) fn.ntmps),fZ 0 ins⟩ {tmps:=vs.toArray++Array.replicate (fn.ntmps-vs.toArray.size) undef,defers:=[]} w:=by
    refine ⟨hinv,fun t x ht=>?_,rfl,by simp;omega,rfl⟩
    have:=kn ht
    subst this
    by_cases hlt:t<args.length
    ·have hg:args[t]?=some (args.getD t .undef):=by rw [List.getD,List.getElem?_eq_getElem hlt];rfl
     obtain ⟨u,u1,u2⟩:=hx.get hg
     have hlt2:t<vs.length:=by omega
     have:(vs.toArray++Array.replicate (fn.ntmps-vs.toArray.size) undef).getD t undef=u:=by
      rw [List.getElem?_eq_getElem hlt2]at u1
      injection u1 with u1
      rw [Array.getD_eq_getD_getElem?,Array.getElem?_append_left (by simpa using hlt2)]
      rw [List.getElem?_toArray,List.getElem?_eq_getElem hlt2,u1]
      rfl
     show aQ _ _ _ ((vs.toArray++Array.replicate (fn.ntmps-vs.toArray.size) undef).getD t undef)
     rw [this];exact u2
    ·have:args.getD t .undef=.undef:=by rw [List.getD,List.getElem?_eq_none (by omega)];rfl
     rw [this];trivial
   have fin:∀G s (a:Act) w',fv cx G fn.ntmps s a w'→kH ins.length s.lh (cN P T s fn.results.toList) (fun v os=>v=r∧os=outs)→a.defers=[]∧∃u,(results fn a.tmps).run P w'=.ok u w'∧∃v,Ending.returned u=.returned v∧jJ F bs τ w r outs v w':=by
    intro G s a w' hr ho
    unfold kH at ho
    split at ho
    ·rename_i r0 hr0
     rw [aR]at ho
     split at ho
     ·rename_i hnam
      obtain ⟨u,g1,g2⟩:=la (cx:=cx) (by rw [hF0];exact htab) hr hr0
      refine ⟨hr.defers,u,g1,u,rfl,?_⟩
      obtain ⟨s1,s2⟩:=hr.inv.turn (w':=w') (gD (bc [] (PV.dm PV.bu r0))) none rfl rfl rfl (Nat.le_refl _) (fun _ _ _=>rfl) (fun t b e=>by cases e)
      have h2:=s2 _ _ g2
      have hag:r0.ck (PV.aU (bO (bc [] (PV.dm PV.bu r0))))=r0.ck (PV.aU cV):=by
       refine iX (fun y=>y.bu=[]∨∀t∈y.bu,t∈bc [] (PV.dm PV.bu r0)) (fun y _ hp=>iY hp) (fun y _ ht=>?_)
       rcases ht with h1|h1
       ·exact .inl h1
       ·exact .inr fun t htm=>(eF (PV.dm PV.bu r0) []).2 t (h1 t htm)
      rw [hag]at h2
      obtain ⟨b1,b2⟩:=lW r0
      have h3:=aQ.dZ b1 (by rw [b2];exact hnam) h2
      obtain ⟨G2,hG2⟩:∃G2,G2=G.turn w' (bO (bc [] (PV.dm PV.bu r0))) none:=⟨_,rfl⟩
      obtain ⟨lh2,hlh2⟩:∃l,l=cz (PV.aU (bO (bc [] (PV.dm PV.bu r0)))) s.lh:=⟨_,rfl⟩
      rw [←hG2,←hlh2]at s1
      rw [←hlh2]at ho
      rw [←hG2]at h3
      unfold Kn at ho
      split at ho
      ·rename_i cs hcs
       rw [ld]at ho
       split at ho
       ·rename_i hms
        obtain ⟨e1,e2⟩:=ho
        obtain ⟨ms,hmse⟩:∃ms,ms=bc [] (PV.aB PV.bu cs):=⟨_,rfl⟩
        rw [←hmse]at e2 hms
        have hmd:ms.Nodup:=by rw [hmse];exact gi _ _ List.nodup_nil
        have hm60:ms.length<60:=Nat.le_of_ble_eq_true hms
        rw [e1]at h3
        obtain ⟨hcl,hcg⟩:=gP hcs
        rw [List.length_range]at hcl
        have hlen2:outs.length=ins.length:=by rw [←e2,fp,hcl]
        have hσ:∀i,i<ins.length→G2.σ i=bs[i]?:=fun i hi=>by rw [s1.par i (by rw [hm0];exact hi),hσ0]
        have hσb:∀i b,bs[i]?=some b→G2.σ i=some b:=fun i b h=>by
         rw [hσ i (by rw [←hl.len];exact (List.getElem?_eq_some_iff.1 h).1),h]
        obtain ⟨τ',hτ'⟩:∃τ':Nat→Option Nat,τ'=fun t=>match t with |0=>none|t+1=>(ms[t]?).bind G2.τ:=⟨_,rfl⟩
        have hτ:∀t b,τ' t=some b→∃i m,t=i+1∧ms[i]?=some m∧G2.τ m=some b:=fun t b ht=>by
         rw [hτ']at ht
         cases t with
         |zero=>cases ht
         |succ t=>
          obtain ⟨m,h1,h2⟩:=Option.bind_eq_some_iff.1 (show(ms[t]?).bind G2.τ=some b from ht)
          exact ⟨t,m,rfl,h1,h2⟩
        have own:∀b,Own cx b→b∉bs→w.heap.size≤b∨∃t,τ t=some b:=fun b ho hnb=>by
         rcases ho with ho|ho
         ·rcases (hps b).1 ho with g|g
          ·exact absurd g hnb
          ·exact .inr g
         ·rw [hw0]at ho;exact .inl ho
        refine ⟨G2.F,τ',by rw [s1.kept.os,hw0],by rw [s1.kept.tape,hw0],by rw [s1.kept.output,hw0],by have:=s1.kept.size;rw [hw0]at this;exact this,fun k hk h1 h2=>?_,by have:=s1.base;rw [hF0]at this;exact this,s1.fits,fun b o q hq=>?_,fun t b ht=>?_,⟨by rw [hl.len,hlen2],hl.nd,fun b hb=>?_,fun t b ht=>?_,fun t t' b h1 h2=>?_,fun i x hx=>?_⟩,h3⟩
        ·have:=s1.kept.block k (by rw [hw0];exact hk) fun hp=>by
          rcases (hps k).1 hp with g|⟨t,g⟩
          ·exact h1 g
          ·exact h2 t g
         rw [hw0]at this;exact this
        ·rcases s1.ext b o q hq with g|g
         ·rw [hF0]at g;exact .inl g
         ·refine .inr (own b g fun hb=>?_)
          obtain ⟨i,hi⟩:=List.mem_iff_getElem?.1 hb
          rw [(s1.boxF i b (hσb i b hi)).2.1 o]at hq;cases hq
        ·obtain ⟨i,m,-,-,g⟩:=hτ t b ht
         refine own b (s1.mark m b g).2.2.2 fun hb=>?_
         obtain ⟨j,hj⟩:=List.mem_iff_getElem?.1 hb
         exact s1.disj j m b (hσb j b hj) g
        ·obtain ⟨i,hi⟩:=List.mem_iff_getElem?.1 hb
         exact (s1.boxF i b (hσb i b hi)).2.1
        ·obtain ⟨i,m,rfl,g1,g⟩:=hτ t b ht
         obtain ⟨k1,k2,k3,k4⟩:=s1.mark m b g
         have hil:i<ms.length:=(List.getElem?_eq_some_iff.1 g1).1
         refine ⟨by omega,by omega,k2,k3,fun hb=>?_⟩
         obtain ⟨j,hj⟩:=List.mem_iff_getElem?.1 hb
         exact s1.disj j m b (hσb j b hj) g
        ·obtain ⟨i,m,rfl,g1,g2⟩:=hτ t b h1
         obtain ⟨j,m',rfl,g3,g4⟩:=hτ t' b h2
         have:=s1.injτ m m' b g2 g4
         subst this
         obtain ⟨a1,-⟩:=List.getElem?_eq_some_iff.1 g1
         have:=(List.getElem?_inj a1 hmd).1 (g1.trans g3.symm)
         omega
        ·rw [←e2,fo]at hx
         cases hc':cs[i]?with
         |none=>rw [hc']at hx;cases hx
         |some c0=>
          rw [hc']at hx
          injection hx with hx;subst hx
          have hil:i<ins.length:=by rw [←hcl];exact (List.getElem?_eq_some_iff.1 hc').1
          obtain ⟨c1,g1,g2⟩:=hcg i i (by rw [List.getElem?_range hil])
          rw [hc']at g1;injection g1 with g1;subst g1
          obtain ⟨b,g3,g4⟩:=s1.box i c0 g2
          refine ⟨b,by rw [←hσ i hil];exact g3,eM.both (G:=G2) (G':=⟨fun i=>bs[i]?,τ',G2.F⟩) rfl (fh.refl _) (fun n m hk b2 hb2=>?_) (fun u hu=>?_) (fun t u h0 ht=>?_) g4⟩
          ·unfold Bm at hk
           cases hlt:Nat.blt n ins.length with
           |false=>rw [hlt]at hk;cases hk
           |true=>
            rw [hlt]at hk;injection hk with hk;subst hk
            show bs[n]?=some b2
            rw [←hσ n (Nat.le_of_ble_eq_true hlt)];exact hb2
          ·rcases nv hu with⟨-,e⟩|⟨e,-⟩
           ·exact e
           ·exact absurd rfl e
          ·rcases nv ht with⟨e,-⟩|⟨-,j,rfl,h1⟩
           ·exact absurd e h0
           ·refine ⟨by omega,fun b hb=>⟨?_,rfl⟩⟩
            show τ' (j+1)=some b
            rw [hτ']
            show(ms[j]?).bind G2.τ=_
            rw [h1];exact hb
       ·exact ho.elim
      ·exact ho.elim
     ·exact ho.elim
    ·exact ho.elim
   refine (uK hmix hX (by rw [hm0];exact h32) (show gg T cx from⟨by rw [hF0];exact htab,fun b hb=>?_,by rw [hw0];exact hwd⟩) fuel).1 c _ _ ⟨fun i=>bs[i]?,τ,F⟩ _ w _ hrel he fun e G s a w' hr hk=>?_
   ·rcases (hps b).1 hb with g|⟨t,g⟩
    ·exact hlb b g
    ·exact hlτ t b g
   ·cases e with
    |normal=>exact fin G s a w' hr hk
    |ret=>exact fin G s a w' hr hk
    |exit i=>exact hk.elim
    |goto l=>exact hk.elim
def PV.Lm:List Nat→PV→PV
 |[],x=>x
 |i::p,.agg l=>PV.Lm p (l.getD i .undef)
 |_,_=>.undef
def Ln(f:PV→PV):Nat→List PV→List PV
 |_,[]=>[]
 |0,x::l=>f x::l
 |i+1,x::l=>x::Ln f i l
def PV.Lo(v:PV):List Nat→PV→PV
 |[],_=>v
 |i::p,.agg l=>.agg (Ln (PV.Lo v p) i l)
 |_,_=>.undef
def VS.bx(s:VS)(n:Nat)(p:List Nat):PV:=PV.Lm p ((bP n s.lh).getD .undef)
def VS.Lq(s:VS)(n:Nat)(p:List Nat)(v:PV):VS:=⟨s.loc,s.env,jx n (PV.Lo v p ((bP n s.lh).getD .undef)) s.lh⟩
end
section
variable [Wd] {P:Program} {cx:Cx} {G:Gh} {lh:List (Nat×PV)} {w:World}
theorem jJ.still {F:Nat→Nat→Option Value}{bs:List Nat}{τ:Nat→Option Nat}{r:PV}{os:List PV}{u:Value}{w':World}(h:jJ F bs τ w r os u w'):jJ F bs τ w r (PV.bg (PV.aU cV) os) u w':=by
 classical
 obtain ⟨F',τ',c1,c2,c3,c4,c5,c6,c7,c8,c9,c10,c11⟩:=h
 have hno:∀t b,τ' t=some b→∀o,F' b o=none:=fun t b ht=>(c10.mks t b ht).2.2.2.1
 have hle:fh F' (fun b o=>if ∃t,τ' t=some b then w'.cell? ⟨b,o,none⟩else F' b o):=fun b o v hv=>by
  dsimp only
  by_cases hm:∃t,τ' t=some b
  ·obtain ⟨t,ht⟩:=hm
   rw [hno t b ht]at hv;cases hv
  ·rw [if_neg hm];exact hv
 refine ⟨fun b o=>if ∃t,τ' t=some b then w'.cell? ⟨b,o,none⟩else F' b o,fun _=>none,c1,c2,c3,c4,c5,c6.trans hle,fun b o v hv=>?_,fun b o v hv=>?_,(fun t b e=>by cases e),⟨by rw [fp];exact c10.len,c10.nd,fun b hb o=>?_,(fun t b e=>by cases e),(fun t t' b e=>by cases e),fun i x hx=>?_⟩,?_⟩
 ·dsimp only at hv
  by_cases hm:∃t,τ' t=some b
  ·rw [if_pos hm]at hv;exact hv
  ·rw [if_neg hm]at hv;exact c7 b o v hv
 ·dsimp only at hv
  by_cases hm:∃t,τ' t=some b
  ·obtain ⟨t,ht⟩:=hm
   exact .inr (c9 t b ht)
  ·rw [if_neg hm]at hv;exact c8 b o v hv
 ·show(if ∃t,τ' t=some b then w'.cell? ⟨b,o,none⟩else F' b o)=none
  rw [if_neg]
  ·exact c10.bF b hb o
  ·rintro ⟨t,ht⟩
   exact (c10.mks t b ht).2.2.2.2 hb
 ·rw [fo]at hx
  cases hc:os[i]?with
  |none=>rw [hc]at hx;cases hx
  |some x0=>
   rw [hc]at hx;injection hx with hx;subst hx
   obtain ⟨b,h1,h2⟩:=c10.box i x0 hc
   refine ⟨b,h1,eM.mark (G:=⟨fun i=>bs[i]?,τ',F'⟩) rfl hle (fun _=>rfl) rfl (fun t h0=>?_) h2⟩
   have:cV t=some 0:=rfl
   rw [this]
   intro b2 hb2 o q hq
   show(if ∃t,τ' t=some b2 then w'.cell? ⟨b2,o,none⟩else F' b2 o)=some q
   rw [if_pos ⟨t,hb2⟩];exact hq
 ·exact aQ.same (G:=gO F') (G':=gO _) (w:=w') (w':=w') hle (fun _ _ h=>h) (fun t b ht=>by cases ht) c11
theorem uM {T:b7}{X:cq}{H:ba}{fuel:Nat}{f:FuncId}{fn:Func}(hmix:P.follows .mixedOrders=true)(hX:cS P T X)(hf:P.funcs[f]?=some fn)(hn:(fn.name== "runtime.NumGoroutine")=false){args ins:List PV}{r:PV}{outs:List PV}{pre:Prop}
 (h32:ins.length≤32)(he:pre→bQ P X T H fuel fn args ins fun v os=>v=r∧PV.bg (PV.aU cV) os=outs):br P T f args ins pre r outs:=by
 intro hpre F w vs bs τ hfits htab hwd hlb hlτ hl hx
 have he:=he hpre
 unfold bQ at he
 cases hb:fn.body with
 |none=>rw [hb]at he;exact he.elim
 |some c=>
  rw [hb]at he
  replace he:mU P X T H fn.ntmps fuel none c ⟨[],gB args (slotsOf (ow fn) fn.ntmps),fZ 0 ins⟩ (fun e s=>match e with
   |.normal=>kH ins.length s.lh (cN P T s fn.results.toList) fun v os=>v=r∧PV.bg (PV.aU cV) os=outs
   |.ret=>kH ins.length s.lh (cN P T s fn.results.toList) fun v os=>v=r∧PV.bg (PV.aU cV) os=outs
   |_=>False):=he
  left
  refine ⟨?_,?_⟩
  ·unfold callFunc
   simp only [Sem.run_bind,run_program,Result.andThen_ok,hf]
   rw [hn]
   simp [hb]
  ·refine calls_of_wp hf hb ?_
   have hlen:=hx.length
   obtain ⟨cx,hcx⟩:∃cx:Cx,cx=⟨bs++(List.range 64).filterMap τ,w,F,ins.length,fun i=>bs[i]?⟩:=⟨_,rfl⟩
   have hps:∀b,b∈cx.ps↔b∈bs∨∃t,τ t=some b:=fun b=>by
    rw [hcx]
    show b∈bs++_ ↔_
    rw [List.mem_append,List.mem_filterMap]
    refine or_congr Iff.rfl ⟨fun⟨t,_,h⟩=>⟨t,h⟩,fun⟨t,h⟩=>⟨t,by have:=(hl.mks t b h).2.1;simpa using this,h⟩⟩
   have hw0:cx.w0=w:=by rw [hcx]
   have hF0:cx.F0=F:=by rw [hcx]
   have hm0:cx.m=ins.length:=by rw [hcx]
   have hσ0:∀i,cx.σ0 i=bs[i]?:=fun i=>by rw [hcx]
   have hinv:Inv cx ⟨fun i=>bs[i]?,τ,F⟩ (fZ 0 ins) w:=by
    refine ⟨hfits,by rw [hF0];exact fh.refl _,fun b o u hu=>.inl (by rw [hF0];exact hu),fun n x hx=>?_,fun n b hb=>?_,fun t b ht=>?_,hl.nd,hl.inj,fun n t b hb ht=>(hl.mks t b ht).2.2.2.2 (List.mem_of_getElem? hb),fun i hi=>(hσ0 i).symm,⟨by rw [hw0],by rw [hw0],by rw [hw0],by rw [hw0];exact Nat.le_refl _,fun _ _ _=>by rw [hw0]⟩⟩
    ·rw [fO,if_pos (Nat.zero_le n),Nat.sub_zero]at hx
     exact hl.box n x hx
    ·have hlt:n<ins.length:=by rw [←hl.len];exact (List.getElem?_eq_some_iff.1 hb).1
     refine ⟨⟨ins[n],by rw [fO,if_pos (Nat.zero_le n),Nat.sub_zero];exact List.getElem?_eq_getElem hlt⟩,hl.bF b (List.mem_of_getElem? hb),.inl ((hps b).2 (.inl (List.mem_of_getElem? hb)))⟩
    ·obtain ⟨h1,h2,h3,h4,h5⟩:=hl.mks t b ht
     exact ⟨h1,h3,h4,.inl ((hps b).2 (.inr ⟨t,ht⟩))⟩
   have hrel:fv cx ⟨fun i=>bs[i]?,τ,F⟩ fn.ntmps ⟨[],gB args (slotsOf (ow fn) fn.ntmps),fZ 0 ins⟩ {tmps:=vs.toArray++Array.replicate (fn.ntmps-vs.toArray.size) undef,defers:=[]} w:=by
    refine ⟨hinv,fun t x ht=>?_,rfl,by simp;omega,rfl⟩
    have:=kn ht
    subst this
    by_cases hlt:t<args.length
    ·have hg:args[t]?=some (args.getD t .undef):=by rw [List.getD,List.getElem?_eq_getElem hlt];rfl
     obtain ⟨u,u1,u2⟩:=hx.get hg
     have hlt2:t<vs.length:=by omega
     have:(vs.toArray++Array.replicate (fn.ntmps-vs.toArray.size) undef).getD t undef=u:=by
      rw [List.getElem?_eq_getElem hlt2]at u1
      injection u1 with u1
      rw [Array.getD_eq_getD_getElem?,Array.getElem?_append_left (by simpa using hlt2)]
      rw [List.getElem?_toArray,List.getElem?_eq_getElem hlt2,u1]
      rfl
     show aQ _ _ _ ((vs.toArray++Array.replicate (fn.ntmps-vs.toArray.size) undef).getD t undef)
     rw [this];exact u2
    ·have:args.getD t .undef=.undef:=by rw [List.getD,List.getElem?_eq_none (by omega)];rfl
     rw [this];trivial
   have fin:∀G s (a:Act) w',fv cx G fn.ntmps s a w'→kH ins.length s.lh (cN P T s fn.results.toList) (fun v os=>v=r∧PV.bg (PV.aU cV) os=outs)→a.defers=[]∧∃u,(results fn a.tmps).run P w'=.ok u w'∧∃v,Ending.returned u=.returned v∧jJ F bs τ w r outs v w':=by
    intro G s a w' hr ho
    unfold kH at ho
    split at ho
    ·rename_i r0 hr0
     rw [aR]at ho
     split at ho
     ·rename_i hnam
      obtain ⟨u,g1,g2⟩:=la (cx:=cx) (by rw [hF0];exact htab) hr hr0
      refine ⟨hr.defers,u,g1,u,rfl,?_⟩
      obtain ⟨s1,s2⟩:=hr.inv.turn (w':=w') (gD (bc [] (PV.dm PV.bu r0))) none rfl rfl rfl (Nat.le_refl _) (fun _ _ _=>rfl) (fun t b e=>by cases e)
      have h2:=s2 _ _ g2
      have hag:r0.ck (PV.aU (bO (bc [] (PV.dm PV.bu r0))))=r0.ck (PV.aU cV):=by
       refine iX (fun y=>y.bu=[]∨∀t∈y.bu,t∈bc [] (PV.dm PV.bu r0)) (fun y _ hp=>iY hp) (fun y _ ht=>?_)
       rcases ht with h1|h1
       ·exact .inl h1
       ·exact .inr fun t htm=>(eF (PV.dm PV.bu r0) []).2 t (h1 t htm)
      rw [hag]at h2
      obtain ⟨b1,b2⟩:=lW r0
      have h3:=aQ.dZ b1 (by rw [b2];exact hnam) h2
      obtain ⟨G2,hG2⟩:∃G2,G2=G.turn w' (bO (bc [] (PV.dm PV.bu r0))) none:=⟨_,rfl⟩
      obtain ⟨lh2,hlh2⟩:∃l,l=cz (PV.aU (bO (bc [] (PV.dm PV.bu r0)))) s.lh:=⟨_,rfl⟩
      rw [←hG2,←hlh2]at s1
      rw [←hlh2]at ho
      rw [←hG2]at h3
      unfold Kn at ho
      split at ho
      ·rename_i cs hcs
       rw [ld]at ho
       split at ho
       ·rename_i hms
        obtain ⟨e1,e2⟩:=ho
        obtain ⟨ms,hmse⟩:∃ms,ms=bc [] (PV.aB PV.bu cs):=⟨_,rfl⟩
        rw [←hmse]at e2 hms
        obtain ⟨os,hos⟩:∃os,os=PV.bg (PV.et (Bm ins.length) (yU ms)) cs:=⟨_,rfl⟩
        rw [←hos]at e2
        rw [←e2]
        refine jJ.still ?_
        have hmd:ms.Nodup:=by rw [hmse];exact gi _ _ List.nodup_nil
        have hm60:ms.length<60:=Nat.le_of_ble_eq_true hms
        rw [e1]at h3
        obtain ⟨hcl,hcg⟩:=gP hcs
        rw [List.length_range]at hcl
        have hlen2:os.length=ins.length:=by rw [hos,fp,hcl]
        have hσ:∀i,i<ins.length→G2.σ i=bs[i]?:=fun i hi=>by rw [s1.par i (by rw [hm0];exact hi),hσ0]
        have hσb:∀i b,bs[i]?=some b→G2.σ i=some b:=fun i b h=>by
         rw [hσ i (by rw [←hl.len];exact (List.getElem?_eq_some_iff.1 h).1),h]
        obtain ⟨τ',hτ'⟩:∃τ':Nat→Option Nat,τ'=fun t=>match t with |0=>none|t+1=>(ms[t]?).bind G2.τ:=⟨_,rfl⟩
        have hτ:∀t b,τ' t=some b→∃i m,t=i+1∧ms[i]?=some m∧G2.τ m=some b:=fun t b ht=>by
         rw [hτ']at ht
         cases t with
         |zero=>cases ht
         |succ t=>
          obtain ⟨m,h1,h2⟩:=Option.bind_eq_some_iff.1 (show(ms[t]?).bind G2.τ=some b from ht)
          exact ⟨t,m,rfl,h1,h2⟩
        have own:∀b,Own cx b→b∉bs→w.heap.size≤b∨∃t,τ t=some b:=fun b ho hnb=>by
         rcases ho with ho|ho
         ·rcases (hps b).1 ho with g|g
          ·exact absurd g hnb
          ·exact .inr g
         ·rw [hw0]at ho;exact .inl ho
        refine ⟨G2.F,τ',by rw [s1.kept.os,hw0],by rw [s1.kept.tape,hw0],by rw [s1.kept.output,hw0],by have:=s1.kept.size;rw [hw0]at this;exact this,fun k hk h1 h2=>?_,by have:=s1.base;rw [hF0]at this;exact this,s1.fits,fun b o q hq=>?_,fun t b ht=>?_,⟨by rw [hl.len,hlen2],hl.nd,fun b hb=>?_,fun t b ht=>?_,fun t t' b h1 h2=>?_,fun i x hx=>?_⟩,h3⟩
        ·have:=s1.kept.block k (by rw [hw0];exact hk) fun hp=>by
          rcases (hps k).1 hp with g|⟨t,g⟩
          ·exact h1 g
          ·exact h2 t g
         rw [hw0]at this;exact this
        ·rcases s1.ext b o q hq with g|g
         ·rw [hF0]at g;exact .inl g
         ·refine .inr (own b g fun hb=>?_)
          obtain ⟨i,hi⟩:=List.mem_iff_getElem?.1 hb
          rw [(s1.boxF i b (hσb i b hi)).2.1 o]at hq;cases hq
        ·obtain ⟨i,m,-,-,g⟩:=hτ t b ht
         refine own b (s1.mark m b g).2.2.2 fun hb=>?_
         obtain ⟨j,hj⟩:=List.mem_iff_getElem?.1 hb
         exact s1.disj j m b (hσb j b hj) g
        ·obtain ⟨i,hi⟩:=List.mem_iff_getElem?.1 hb
         exact (s1.boxF i b (hσb i b hi)).2.1
        ·obtain ⟨i,m,rfl,g1,g⟩:=hτ t b ht
         obtain ⟨k1,k2,k3,k4⟩:=s1.mark m b g
         have hil:i<ms.length:=(List.getElem?_eq_some_iff.1 g1).1
         refine ⟨by omega,by omega,k2,k3,fun hb=>?_⟩
         obtain ⟨j,hj⟩:=List.mem_iff_getElem?.1 hb
         exact s1.disj j m b (hσb j b hj) g
        ·obtain ⟨i,m,rfl,g1,g2⟩:=hτ t b h1
         obtain ⟨j,m',rfl,g3,g4⟩:=hτ t' b h2
         have:=s1.injτ m m' b g2 g4
         subst this
         obtain ⟨a1,-⟩:=List.getElem?_eq_some_iff.1 g1
         have:=(List.getElem?_inj a1 hmd).1 (g1.trans g3.symm)
         omega
        ·rw [hos,fo]at hx
         cases hc':cs[i]?with
         |none=>rw [hc']at hx;cases hx
         |some c0=>
          rw [hc']at hx
          injection hx with hx;subst hx
          have hil:i<ins.length:=by rw [←hcl];exact (List.getElem?_eq_some_iff.1 hc').1
          obtain ⟨c1,g1,g2⟩:=hcg i i (by rw [List.getElem?_range hil])
          rw [hc']at g1;injection g1 with g1;subst g1
          obtain ⟨b,g3,g4⟩:=s1.box i c0 g2
          refine ⟨b,by rw [←hσ i hil];exact g3,eM.both (G:=G2) (G':=⟨fun i=>bs[i]?,τ',G2.F⟩) rfl (fh.refl _) (fun n m hk b2 hb2=>?_) (fun u hu=>?_) (fun t u h0 ht=>?_) g4⟩
          ·unfold Bm at hk
           cases hlt:Nat.blt n ins.length with
           |false=>rw [hlt]at hk;cases hk
           |true=>
            rw [hlt]at hk;injection hk with hk;subst hk
            show bs[n]?=some b2
            rw [←hσ n (Nat.le_of_ble_eq_true hlt)];exact hb2
          ·rcases nv hu with⟨-,e⟩|⟨e,-⟩
           ·exact e
           ·exact absurd rfl e
          ·rcases nv ht with⟨e,-⟩|⟨-,j,rfl,h1⟩
           ·exact absurd e h0
           ·refine ⟨by omega,fun b hb=>⟨?_,rfl⟩⟩
            show τ' (j+1)=some b
            rw [hτ']
            show(ms[j]?).bind G2.τ=_
            rw [h1];exact hb
       ·exact ho.elim
      ·exact ho.elim
     ·exact ho.elim
    ·exact ho.elim
   refine (uK hmix hX (by rw [hm0];exact h32) (show gg T cx from⟨by rw [hF0];exact htab,fun b hb=>?_,by rw [hw0];exact hwd⟩) fuel).1 c _ _ ⟨fun i=>bs[i]?,τ,F⟩ _ w _ hrel he fun e G s a w' hr hk=>?_
   ·rcases (hps b).1 hb with g|⟨t,g⟩
    ·exact hlb b g
    ·exact hlτ t b g
   ·cases e with
    |normal=>exact fin G s a w' hr hk
    |ret=>exact fin G s a w' hr hk
    |exit i=>exact hk.elim
    |goto l=>exact hk.elim
end
section
variable [Wd] {P:Program}
def Bn(bp:Option Addr):PV→PV
 |.ptr 0 o=>.ptr 0 o
 |.ptr (n+1) o=>bif Nat.beq n 0&&Nat.beq o 0 then .raw (.pointer bp)else .undef
 |.pix ..=>.undef
 |.asl ..=>.undef
 |x=>x
open Classical in
noncomputable def ofRaw(bp:Option Addr):PV→PV
 |.raw v=>if v=.pointer bp then .ptr 1 0 else .raw v
 |x=>x
def z0:Nat→Option Nat
 |0=>some 0
 |_=>none
theorem nB(bp:Option Addr)(y:PV)(hl:y.leaf=true):(Bn bp y).wid=y.wid:=by
 cases y with
 |ptr n o=>
  cases n with
  |zero=>rfl
  |succ n=>
   show PV.wid (bif Nat.beq n 0&&Nat.beq o 0 then .raw (.pointer bp)else .undef)=1
   cases Nat.beq n 0&&Nat.beq o 0<;>rfl
 |_=>rfl
theorem s7(bp:Option Addr)(y:PV)(hl:y.leaf=true):(ofRaw bp y).wid=y.wid:=by
 cases y with
 |raw v=>
  unfold ofRaw;dsimp only
  split<;>rfl
 |_=>rfl
theorem wM {F:Nat→Nat→Option Value}{τ:Nat→Option Nat}{w:World}{b0 b1:Nat}(y:PV)(v:Value)(hl:y.leaf=true)(h:aQ y ⟨fun i=>[b0,b1][i]?,τ,F⟩ w v):aQ (Bn (some ⟨b1,0,none⟩) y) ⟨fun i=>[b0][i]?,τ,F⟩ w v:=by
 cases y with
 |ptr n o=>
  obtain ⟨b,h1,h2⟩:=h
  cases n with
  |zero=>exact ⟨b,h1,h2⟩
  |succ n=>
   show aQ (bif Nat.beq n 0&&Nat.beq o 0 then .raw (.pointer (some ⟨b1,0,none⟩))else .undef) _ _ _
   cases e:Nat.beq n 0&&Nat.beq o 0 with
   |false=>trivial
   |true=>
    rw [Bool.and_eq_true]at e
    obtain rfl:=Nat.eq_of_beq_eq_true e.1
    obtain rfl:=Nat.eq_of_beq_eq_true e.2
    obtain rfl:b1=b:=by injection h1
    exact ⟨h2,rfl⟩
 |pix n o i=>trivial
 |asl n o i k=>trivial
 |agg l=>cases hl
 |tup l=>cases hl
 |fn g a b=>cases hl
 |_=>exact aQ.Bb (G:=⟨fun i=>[b0,b1][i]?,τ,F⟩) rfl (fun _ _ _ h=>h) (fun n hn=>by cases hn) (fun t _=>⟨rfl,fun _ _=>rfl⟩) h
theorem E9 {F:Nat→Nat→Option Value}{τ:Nat→Option Nat}{w:World}{b0 b1:Nat}(y:PV)(v:Value)(hl:y.leaf=true)(h:aQ y ⟨fun i=>[b0][i]?,τ,F⟩ w v):aQ (ofRaw (some ⟨b1,0,none⟩) y) ⟨fun i=>[b0,b1][i]?,τ,F⟩ w v:=by
 have up:∀(n b:Nat),([b0]:List Nat)[n]?=some b→([b0,b1]:List Nat)[n]?=some b:=fun n b e=>by
  match n,e with
  |0,e=>exact e
  |n+1,e=>simp at e
 cases y with
 |raw u=>
  unfold ofRaw;dsimp only
  split
  ·rename_i e
   exact ⟨b1,rfl,by rw [←e];exact h.1⟩
  ·exact h
 |agg l=>cases hl
 |tup l=>cases hl
 |fn g a b=>cases hl
 |_=>exact aQ.same (G:=⟨fun i=>[b0][i]?,τ,F⟩) (G':=⟨fun i=>[b0,b1][i]?,τ,F⟩) (w:=w) (w':=w) (fun _ _ _ h=>h) up (fun t b e=>⟨e,rfl⟩) h
theorem eH {T:b7}{f:FuncId}{as:List PV}{pre:Prop}{r C D U:PV}(C' D':Option Addr→PV)(h:∀bp,br P T f as [C' bp] pre r [D' bp])
 (hC:∀bp,C.ck (Bn bp)=C' bp)(hD:∀bp,(D' bp).ck (ofRaw bp)=D)(hA:∀bp,PV.bg (Bn bp) as=as)(hU:U.ck (PV.et (fun _=>none) z0)=U):br P T f as [C,U] pre r [D,U]:=by
 intro hpre F w vs bs τ hF hT hw hbs hτ hl hx
 obtain ⟨b0,b1,rfl⟩:∃b0 b1,bs=[b0,b1]:=by
  have:=hl.len
  match bs,this with
  |[x,y],_=>exact ⟨x,y,rfl⟩
 have hne:b0≠b1:=fun e=>by have:=hl.nd 0 1 b0 rfl (by rw [e];rfl);cases this
 obtain ⟨b,hb,hB0⟩:=hl.box 0 C rfl
 obtain rfl:b0=b:=by injection hb
 obtain ⟨b,hb,hB1⟩:=hl.box 1 U rfl
 obtain rfl:b1=b:=by injection hb
 have h1lt:=hB1.lt
 have h1τ:∀t,τ t≠some b1:=fun t e=>(hl.mks t b1 e).2.2.2.2 (by simp)
 have hl':Hv F [b0] τ w [C' (some ⟨b1,0,none⟩)]:=by
  refine ⟨rfl,fun i j b hi hj=>?_,fun b hb=>hl.bF b (by simp at hb;simp [hb]),fun t b e=>?_,hl.inj,fun i x hi=>?_⟩
  ·cases i<;>cases j<;>simp at hi hj
   rfl
  ·obtain ⟨m1,m2,m3,m4,m5⟩:=hl.mks t b e
   exact ⟨m1,m2,m3,m4,fun hb=>m5 (by simp at hb;simp [hb])⟩
  ·cases i with
   |succ i=>simp at hi
   |zero=>
    injection hi with hi;subst hi
    refine ⟨b0,rfl,?_⟩
    obtain ⟨u,e,fz,g1,g2,g3,g4,g5⟩:=hB0
    refine ⟨u,e,fz,g1,g2,?_,?_,g5⟩
    ·rw [←hC];exact aQ.map wM (nB _) g3
    ·rw [←hC,PV.fC (nB _)];exact g4
 have hx':au as ⟨fun i=>[b0][i]?,τ,F⟩ w vs:=by
  rw [←hA (some ⟨b1,0,none⟩)];exact au.map wM (nB _) hx
 have came:∀u w',jJ F [b0] τ w r [D' (some ⟨b1,0,none⟩)] u w'→jJ F [b0,b1] τ w r [D,U] u w':=by
  rintro u w' ⟨F',τ',c1,c2,c3,c4,c5,c6,c7,c8,c9,c10,c11⟩
  have hh:w'.heap[b1]?=w.heap[b1]?:=c5 b1 h1lt (by simp;exact fun e=>hne e.symm) h1τ
  have hτ':∀t,τ' t≠some b1:=fun t e=>by
   rcases c9 t b1 e with h|⟨t',h⟩
   ·omega
   ·exact h1τ t' h
  have hF1:∀o,F' b1 o=none:=fun o=>by
   cases e:F' b1 o with
   |none=>rfl
   |some q=>
    rcases c8 b1 o q e with h|h|⟨t,h⟩
    ·rw [hl.bF b1 (by simp) o]at h;cases h
    ·omega
    ·exact absurd h (h1τ t)
  refine ⟨F',τ',c1,c2,c3,c4,fun k hk hn ht=>c5 k hk (fun e=>hn (by simp at e;simp [e])) ht,c6,c7,c8,c9,⟨rfl,hl.nd,fun b hb o=>?_,fun t b e=>?_,c10.inj,fun i x hi=>?_⟩,c11⟩
  ·simp at hb
   rcases hb with rfl|rfl
   ·exact c10.bF b (by simp) o
   ·exact hF1 o
  ·obtain ⟨m1,m2,m3,m4,m5⟩:=c10.mks t b e
   refine ⟨m1,m2,m3,m4,fun hb=>?_⟩
   simp at hb
   rcases hb with rfl|rfl
   ·exact m5 (by simp)
   ·exact hτ' t e
  ·match i,hi with
   |0,hi=>
    injection hi with hi;subst hi
    refine ⟨b0,rfl,?_⟩
    obtain ⟨b,g0,u,e,fz,g1,g2,g3,g4,g5⟩:=c10.box 0 _ rfl
    obtain rfl:b0=b:=by injection g0
    refine ⟨u,e,fz,g1,g2,?_,?_,g5⟩
    ·rw [←hD (some ⟨b1,0,none⟩)];exact aQ.map E9 (s7 _) g3
    ·rw [←hD (some ⟨b1,0,none⟩),PV.fC (s7 _)];exact g4
   |1,hi=>
    injection hi with hi;subst hi
    refine ⟨b1,rfl,?_⟩
    rw [←hU]
    refine eM.both (G:=⟨fun i=>[b0,b1][i]?,τ,F⟩) hh c6 (fun n m e=>by cases e) (fun u e=>?_) (fun t u h0 e=>?_) hB1
    ·injection e with e;exact e.symm
    ·cases t with
     |zero=>exact absurd rfl h0
     |succ t=>cases e
   |i+2,hi=>simp at hi
 rcases h _ hpre F w vs [b0] τ hF hT hw (fun b hb=>hbs b (by simp at hb;simp [hb])) hτ hl' hx' with⟨h1,h2⟩|⟨u,w',h1,h2⟩
 ·exact .inl ⟨h1,h2.mono fun e w' ⟨u,he,hc⟩=>⟨u,he,came u w' hc⟩⟩
 ·exact .inr ⟨u,w',h1,came u w' h2⟩
theorem ag.LM {T:b7}{f:FuncId}{xs:List PV}{c:aI}{pre:Prop}{r:PV}{outs:List PV}(h:ag P T f xs c)(hn:PV.aB PV.bD xs≠[])(hp:pre→c.pre)(hr:pre→c.r=.tup (r::outs)):ag P T f xs ⟨pre,.tup (r::outs)⟩:=
 ag.bd hn fun hpre=>h.Lj hn (hr hpre) (hp hpre)
end
end Go.Vc
