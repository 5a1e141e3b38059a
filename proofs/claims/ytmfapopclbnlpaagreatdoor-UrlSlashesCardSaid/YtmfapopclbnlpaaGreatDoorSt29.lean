import Derived.Test.YtmfapopclbnlpaaGreatDoorProg
import Derived.ProofKit
import Derived.Test.YtmfapopclbnlpaaGreatDoorSt6
import Derived.Test.YtmfapopclbnlpaaGreatDoorSt18
import Derived.Test.YtmfapopclbnlpaaGreatDoorSt20
import Derived.Test.YtmfapopclbnlpaaGreatDoorSt25
set_option linter.unusedVariables false
set_option linter.unusedSimpArgs false
set_option maxRecDepth 100000
set_option maxHeartbeats 4000000
namespace Go.Proofs.YtmfapopclbnlpaaGreatDoor
open Go Go.Proofs Go.RowKit Go.Vc
section
theorem kO(r:RS)(s:Bs):(r.aX s).1={r with hk:=(r.aX s).1.hk,hs:=(r.aX s).1.hs,hn:=(r.aX s).1.hn,hp:=(r.aX s).1.hp,port:=(r.aX s).1.port}:=by
 unfold RS.aX
 dsimp only
 (repeat' split)<;>rfl
theorem Ea(r:RS):r.aZ.1={r with us:=r.aZ.1.us,pw:=r.aZ.1.pw,hk:=r.aZ.1.hk,hs:=r.aZ.1.hs,hn:=r.aZ.1.hn,hp:=r.aZ.1.hp,port:=r.aZ.1.port,rst:=aa r.rst (ah r.sp r.rst)}:=by
 unfold RS.aZ
 dsimp only
 split
 ·split
  ·rfl
  ·rw [kO];rfl
 ·rw [kO];rfl
theorem AT(r:RS):r.aS.1={r with hk:=r.aS.1.hk,hs:=r.aS.1.hs,hn:=r.aS.1.hn,hp:=r.aS.1.hp,pn:=r.aS.1.pn,pl:=r.aS.1.pl,rst:=r.aS.1.rst}:=by
 unfold RS.aS
 dsimp only
 split
 ·split
  ·rfl
  ·split
   ·rw [eC];rfl
   ·rw [eC];rfl
 ·rfl
theorem rJ(r:RS):r.path.rst.length≤r.rst.length:=cQ _ _
theorem vT(r:RS):r.av.1.rst.length≤r.rst.length:=by rw [eC];exact cQ _ _
theorem Eb(r:RS):r.aS.1.rst.length≤r.rst.length:=by
 unfold RS.aS
 dsimp only
 split
 ·have h2:=cQ r.rst 2
  split
  ·exact Nat.le_trans (rJ _) h2
  ·have h3:=vT (({r with hk:=1}:RS).cut 2)
   split
   ·exact Nat.le_trans (rJ _) (Nat.le_trans (mS _ _) (Nat.le_trans h3 h2))
   ·exact Nat.le_trans h3 h2
 ·exact Nat.le_trans (rJ _) (mS _ _)
theorem rK:∀(f:Nat) (sp:Bool) (n:Int) (l:Bs),(aC f sp n l).length≤l.length
 |0,_,_,l=>Nat.le_refl _
 |f+1,sp,n,l=>by
  unfold aC
  split
  ·exact Nat.le_trans (rK f sp (n+1) _) (cQ _ _)
  ·exact Nat.le_refl _
theorem rL(l:Bs):∀(r:Bs) (i:Nat),(ab l r i).2.1.length≤l.length
 |[],_=>Nat.zero_le _
 |c::r,i=>by
  unfold ab
  split
  ·exact rL l r (i+1)
  ·split
   ·exact Nat.zero_le _
   ·split
    ·show(l.drop (i+1)).length≤_
     rw [List.length_drop];omega
    ·split
     ·exact rL l r (i+1)
     ·exact Nat.zero_le _
theorem jo(r:RS):r.tail={r with hq:=ee r.rst r.hq,q:=eh r.sp r.rst r.q,hf:=ei (bL r.rst) r.hf,fg:=ej (bL r.rst) r.fg,rst:=en (bL r.rst)}:=by
 unfold RS.tail
 rw [Jg,GK]
theorem iQ(l:Bs):(bL l).length≤l.length:=by
 unfold bL
 split
 ·exact Nat.le_trans (cQ _ _) (cQ _ _)
 ·exact Nat.le_refl _
def ob(r:RS):PV:=(aE 0 (.raw (.pointer none)) (r.sc) (r.us) (r.pw) (r.hk) (r.hs) (r.hn) (r.hp) (r.port) (r.opq) (r.pn) (r.pl) (r.hq) (r.q) (r.hf) (r.fg) (r.bare) (r.sp) (r.rst))
def KT(o:RS×Int):PV→List PV→Prop:=fun v os=>v=.int .i64 o.2∧PV.bg (PV.aU cV) os=[ob o.1]
def AU(k:PV→List PV→Prop)(sc us pw:Bs)(hk:Int)(hs:Bs)(hn:Int)(hp:List Int)(port:Int)(pn:Bool)(pl:List Bs)(hq:Bool)(q:Bs)(hf:Bool)(fg:Bs)(bare sp:Bool)(rst:Bs):Prop:=∀(x:RS),(RS.mk sc us pw hk hs hn hp port false pn pl hq q hf fg bare sp rst).ao=x.bz∧
 List.length x.rst≤(300000:Nat)∧
 x.pl.length≤(100000:Nat)→
 (List.length x.rst).le (300000:Nat)∧
 ((!decide (x.aZ.2=(0:Int)))=true→
 k (PV.int .i64 x.aZ.2) [bV (PV.raw (Go.Value.pointer none)) 1 x.sc (x.aZ.1.us) (x.aZ.1.pw) (x.aZ.1.hk) (x.aZ.1.hs) (x.aZ.1.hn) (x.aZ.1.hp) (x.aZ.1.port) x.opq x.pn x.pl x.hq x.q x.hf x.fg x.bare x.sp (aa x.rst ↑(ah x.sp x.rst))])∧
 ((!decide (x.aZ.2=(0:Int)))=false→
 ((!x.sp)=true→
 True∧
 (bT (aa x.rst ↑(ah x.sp x.rst))=true→
 (aa x.rst ↑(ah x.sp x.rst)).length.le (300000:Nat)∧
 (List.length (bL (aa x.rst ↑(ah x.sp x.rst)))).le (300000:Nat)∧
 k (PV.int .i64 (0:Int)) [bV (PV.raw (Go.Value.pointer none)) 1 x.sc (x.aZ.1.us) (x.aZ.1.pw) (x.aZ.1.hk) (x.aZ.1.hs) (x.aZ.1.hn) (x.aZ.1.hp) (x.aZ.1.port) x.opq x.pn x.pl (ee (aa x.rst ↑(ah x.sp x.rst)) x.hq) (eh x.sp (aa x.rst ↑(ah x.sp x.rst)) x.q) (ei (bL (aa x.rst ↑(ah x.sp x.rst))) x.hf) (ej (bL (aa x.rst ↑(ah x.sp x.rst))) x.fg) x.bare x.sp (en (bL (aa x.rst ↑(ah x.sp x.rst))))])∧
 (bT (aa x.rst ↑(ah x.sp x.rst))=false→
 True∧
 (List.length (if az x.sp (aa x.rst ↑(ah x.sp x.rst)) (0:Int)=true then aa (aa x.rst ↑(ah x.sp x.rst)) (1:Int)else aa x.rst ↑(ah x.sp x.rst))≤(300000:Nat)∧
 x.pl.length≤(100000:Nat))∧
 (aa (if az x.sp (aa x.rst ↑(ah x.sp x.rst)) (0:Int)=true then aa (aa x.rst ↑(ah x.sp x.rst)) (1:Int)else aa x.rst ↑(ah x.sp x.rst)) ↑(aF (if az x.sp (aa x.rst ↑(ah x.sp x.rst)) (0:Int)=true then aa (aa x.rst ↑(ah x.sp x.rst)) (1:Int)else aa x.rst ↑(ah x.sp x.rst)))).length.le (300000:Nat)∧
 (List.length (bL (aa (if az x.sp (aa x.rst ↑(ah x.sp x.rst)) (0:Int)=true then aa (aa x.rst ↑(ah x.sp x.rst)) (1:Int)else aa x.rst ↑(ah x.sp x.rst)) ↑(aF (if az x.sp (aa x.rst ↑(ah x.sp x.rst)) (0:Int)=true then aa (aa x.rst ↑(ah x.sp x.rst)) (1:Int)else aa x.rst ↑(ah x.sp x.rst)))))).le (300000:Nat)∧
 k (PV.int .i64 (0:Int)) [bV (PV.raw (Go.Value.pointer none)) 1 x.sc (x.aZ.1.us) (x.aZ.1.pw) (x.aZ.1.hk) (x.aZ.1.hs) (x.aZ.1.hn) (x.aZ.1.hp) (x.aZ.1.port) x.opq ((bt x.sp x.sc (ae (if az x.sp (aa x.rst ↑(ah x.sp x.rst)) (0:Int)=true then aa (aa x.rst ↑(ah x.sp x.rst)) (1:Int)else aa x.rst ↑(ah x.sp x.rst)) ↑(aF (if az x.sp (aa x.rst ↑(ah x.sp x.rst)) (0:Int)=true then aa (aa x.rst ↑(ah x.sp x.rst)) (1:Int)else aa x.rst ↑(ah x.sp x.rst)))) (x.pn,x.pl)).1) ((bt x.sp x.sc (ae (if az x.sp (aa x.rst ↑(ah x.sp x.rst)) (0:Int)=true then aa (aa x.rst ↑(ah x.sp x.rst)) (1:Int)else aa x.rst ↑(ah x.sp x.rst)) ↑(aF (if az x.sp (aa x.rst ↑(ah x.sp x.rst)) (0:Int)=true then aa (aa x.rst ↑(ah x.sp x.rst)) (1:Int)else aa x.rst ↑(ah x.sp x.rst)))) (x.pn,x.pl)).2) (ee (aa (if az x.sp (aa x.rst ↑(ah x.sp x.rst)) (0:Int)=true then aa (aa x.rst ↑(ah x.sp x.rst)) (1:Int)else aa x.rst ↑(ah x.sp x.rst)) ↑(aF (if az x.sp (aa x.rst ↑(ah x.sp x.rst)) (0:Int)=true then aa (aa x.rst ↑(ah x.sp x.rst)) (1:Int)else aa x.rst ↑(ah x.sp x.rst)))) x.hq) (eh x.sp (aa (if az x.sp (aa x.rst ↑(ah x.sp x.rst)) (0:Int)=true then aa (aa x.rst ↑(ah x.sp x.rst)) (1:Int)else aa x.rst ↑(ah x.sp x.rst)) ↑(aF (if az x.sp (aa x.rst ↑(ah x.sp x.rst)) (0:Int)=true then aa (aa x.rst ↑(ah x.sp x.rst)) (1:Int)else aa x.rst ↑(ah x.sp x.rst)))) x.q) (ei (bL (aa (if az x.sp (aa x.rst ↑(ah x.sp x.rst)) (0:Int)=true then aa (aa x.rst ↑(ah x.sp x.rst)) (1:Int)else aa x.rst ↑(ah x.sp x.rst)) ↑(aF (if az x.sp (aa x.rst ↑(ah x.sp x.rst)) (0:Int)=true then aa (aa x.rst ↑(ah x.sp x.rst)) (1:Int)else aa x.rst ↑(ah x.sp x.rst))))) x.hf) (ej (bL (aa (if az x.sp (aa x.rst ↑(ah x.sp x.rst)) (0:Int)=true then aa (aa x.rst ↑(ah x.sp x.rst)) (1:Int)else aa x.rst ↑(ah x.sp x.rst)) ↑(aF (if az x.sp (aa x.rst ↑(ah x.sp x.rst)) (0:Int)=true then aa (aa x.rst ↑(ah x.sp x.rst)) (1:Int)else aa x.rst ↑(ah x.sp x.rst))))) x.fg) x.bare x.sp (en (bL (aa (if az x.sp (aa x.rst ↑(ah x.sp x.rst)) (0:Int)=true then aa (aa x.rst ↑(ah x.sp x.rst)) (1:Int)else aa x.rst ↑(ah x.sp x.rst)) ↑(aF (if az x.sp (aa x.rst ↑(ah x.sp x.rst)) (0:Int)=true then aa (aa x.rst ↑(ah x.sp x.rst)) (1:Int)else aa x.rst ↑(ah x.sp x.rst))))))]))∧
 ((!x.sp)=!true→
 (false=true→
 (aa x.rst ↑(ah x.sp x.rst)).length.le (300000:Nat)∧
 (List.length (bL (aa x.rst ↑(ah x.sp x.rst)))).le (300000:Nat)∧
 k (PV.int .i64 (0:Int)) [bV (PV.raw (Go.Value.pointer none)) 1 x.sc (x.aZ.1.us) (x.aZ.1.pw) (x.aZ.1.hk) (x.aZ.1.hs) (x.aZ.1.hn) (x.aZ.1.hp) (x.aZ.1.port) x.opq x.pn x.pl (ee (aa x.rst ↑(ah x.sp x.rst)) x.hq) (eh x.sp (aa x.rst ↑(ah x.sp x.rst)) x.q) (ei (bL (aa x.rst ↑(ah x.sp x.rst))) x.hf) (ej (bL (aa x.rst ↑(ah x.sp x.rst))) x.fg) x.bare x.sp (en (bL (aa x.rst ↑(ah x.sp x.rst))))])∧
 (false=false→
 True∧
 (List.length (if az x.sp (aa x.rst ↑(ah x.sp x.rst)) (0:Int)=true then aa (aa x.rst ↑(ah x.sp x.rst)) (1:Int)else aa x.rst ↑(ah x.sp x.rst))≤(300000:Nat)∧
 x.pl.length≤(100000:Nat))∧
 (aa (if az x.sp (aa x.rst ↑(ah x.sp x.rst)) (0:Int)=true then aa (aa x.rst ↑(ah x.sp x.rst)) (1:Int)else aa x.rst ↑(ah x.sp x.rst)) ↑(aF (if az x.sp (aa x.rst ↑(ah x.sp x.rst)) (0:Int)=true then aa (aa x.rst ↑(ah x.sp x.rst)) (1:Int)else aa x.rst ↑(ah x.sp x.rst)))).length.le (300000:Nat)∧
 (List.length (bL (aa (if az x.sp (aa x.rst ↑(ah x.sp x.rst)) (0:Int)=true then aa (aa x.rst ↑(ah x.sp x.rst)) (1:Int)else aa x.rst ↑(ah x.sp x.rst)) ↑(aF (if az x.sp (aa x.rst ↑(ah x.sp x.rst)) (0:Int)=true then aa (aa x.rst ↑(ah x.sp x.rst)) (1:Int)else aa x.rst ↑(ah x.sp x.rst)))))).le (300000:Nat)∧
 k (PV.int .i64 (0:Int)) [bV (PV.raw (Go.Value.pointer none)) 1 x.sc (x.aZ.1.us) (x.aZ.1.pw) (x.aZ.1.hk) (x.aZ.1.hs) (x.aZ.1.hn) (x.aZ.1.hp) (x.aZ.1.port) x.opq ((bt x.sp x.sc (ae (if az x.sp (aa x.rst ↑(ah x.sp x.rst)) (0:Int)=true then aa (aa x.rst ↑(ah x.sp x.rst)) (1:Int)else aa x.rst ↑(ah x.sp x.rst)) ↑(aF (if az x.sp (aa x.rst ↑(ah x.sp x.rst)) (0:Int)=true then aa (aa x.rst ↑(ah x.sp x.rst)) (1:Int)else aa x.rst ↑(ah x.sp x.rst)))) (x.pn,x.pl)).1) ((bt x.sp x.sc (ae (if az x.sp (aa x.rst ↑(ah x.sp x.rst)) (0:Int)=true then aa (aa x.rst ↑(ah x.sp x.rst)) (1:Int)else aa x.rst ↑(ah x.sp x.rst)) ↑(aF (if az x.sp (aa x.rst ↑(ah x.sp x.rst)) (0:Int)=true then aa (aa x.rst ↑(ah x.sp x.rst)) (1:Int)else aa x.rst ↑(ah x.sp x.rst)))) (x.pn,x.pl)).2) (ee (aa (if az x.sp (aa x.rst ↑(ah x.sp x.rst)) (0:Int)=true then aa (aa x.rst ↑(ah x.sp x.rst)) (1:Int)else aa x.rst ↑(ah x.sp x.rst)) ↑(aF (if az x.sp (aa x.rst ↑(ah x.sp x.rst)) (0:Int)=true then aa (aa x.rst ↑(ah x.sp x.rst)) (1:Int)else aa x.rst ↑(ah x.sp x.rst)))) x.hq) (eh x.sp (aa (if az x.sp (aa x.rst ↑(ah x.sp x.rst)) (0:Int)=true then aa (aa x.rst ↑(ah x.sp x.rst)) (1:Int)else aa x.rst ↑(ah x.sp x.rst)) ↑(aF (if az x.sp (aa x.rst ↑(ah x.sp x.rst)) (0:Int)=true then aa (aa x.rst ↑(ah x.sp x.rst)) (1:Int)else aa x.rst ↑(ah x.sp x.rst)))) x.q) (ei (bL (aa (if az x.sp (aa x.rst ↑(ah x.sp x.rst)) (0:Int)=true then aa (aa x.rst ↑(ah x.sp x.rst)) (1:Int)else aa x.rst ↑(ah x.sp x.rst)) ↑(aF (if az x.sp (aa x.rst ↑(ah x.sp x.rst)) (0:Int)=true then aa (aa x.rst ↑(ah x.sp x.rst)) (1:Int)else aa x.rst ↑(ah x.sp x.rst))))) x.hf) (ej (bL (aa (if az x.sp (aa x.rst ↑(ah x.sp x.rst)) (0:Int)=true then aa (aa x.rst ↑(ah x.sp x.rst)) (1:Int)else aa x.rst ↑(ah x.sp x.rst)) ↑(aF (if az x.sp (aa x.rst ↑(ah x.sp x.rst)) (0:Int)=true then aa (aa x.rst ↑(ah x.sp x.rst)) (1:Int)else aa x.rst ↑(ah x.sp x.rst))))) x.fg) x.bare x.sp (en (bL (aa (if az x.sp (aa x.rst ↑(ah x.sp x.rst)) (0:Int)=true then aa (aa x.rst ↑(ah x.sp x.rst)) (1:Int)else aa x.rst ↑(ah x.sp x.rst)) ↑(aF (if az x.sp (aa x.rst ↑(ah x.sp x.rst)) (0:Int)=true then aa (aa x.rst ↑(ah x.sp x.rst)) (1:Int)else aa x.rst ↑(ah x.sp x.rst))))))])))
def Jh(k:PV→List PV→Prop)(sc us pw:Bs)(hk:Int)(hs:Bs)(hn:Int)(hp:List Int)(port:Int)(pn:Bool)(pl:List Bs)(hq:Bool)(q:Bs)(hf:Bool)(fg:Bs)(bare sp:Bool)(rst:Bs):Prop:=∀(x:RS),(RS.mk sc us pw hk hs hn hp port false pn pl hq q hf fg bare sp rst).ao=(x.path.tail,(0:Int))∧
 List.length x.rst≤(300000:Nat)∧
 x.pl.length≤(100000:Nat)→
 (List.length x.rst≤(300000:Nat)∧
 x.pl.length≤(100000:Nat))∧
 (aa x.rst ↑(aF x.rst)).length.le (300000:Nat)∧
 (List.length (bL (aa x.rst ↑(aF x.rst)))).le (300000:Nat)∧
 k (PV.int .i64 (0:Int)) [bV (PV.raw (Go.Value.pointer none)) 1 x.sc x.us x.pw x.hk x.hs x.hn x.hp x.port x.opq ((bt x.sp x.sc (ae x.rst ↑(aF x.rst)) (x.pn,x.pl)).1) ((bt x.sp x.sc (ae x.rst ↑(aF x.rst)) (x.pn,x.pl)).2) (ee (aa x.rst ↑(aF x.rst)) x.hq) (eh x.sp (aa x.rst ↑(aF x.rst)) x.q) (ei (bL (aa x.rst ↑(aF x.rst))) x.hf) (ej (bL (aa x.rst ↑(aF x.rst))) x.fg) x.bare x.sp (en (bL (aa x.rst ↑(aF x.rst))))]
theorem Ji(sc us pw:Bs)(hk:Int)(hs:Bs)(hn:Int)(hp:List Int)(port:Int)(pn:Bool)(pl:List Bs)(hq:Bool)(q:Bs)(hf:Bool)(fg:Bs)(bare sp:Bool)(rst:Bs):Jh (KT (RS.mk sc us pw hk hs hn hp port false pn pl hq q hf fg bare sp rst).ao) sc us pw hk hs hn hp port pn pl hq q hf fg bare sp rst:=fun x ⟨h1,h2,h3⟩=>by
 have hl:=cQ x.rst (aF x.rst)
 have hq':=iQ (aa x.rst (aF x.rst))
 rw [h1]
 refine ⟨⟨h2,h3⟩,show(aa x.rst (aF x.rst)).length≤300000 by omega,show(bL (aa x.rst (aF x.rst))).length≤300000 by omega,rfl,?_⟩
 show _=[ob x.path.tail]
 rw [jo]
 rfl
set_option maxHeartbeats 4000000 in
theorem Jj(sc us pw:Bs)(hk:Int)(hs:Bs)(hn:Int)(hp:List Int)(port:Int)(pn:Bool)(pl:List Bs)(hq:Bool)(q:Bs)(hf:Bool)(fg:Bs)(bare sp:Bool)(rst:Bs):AU (KT (RS.mk sc us pw hk hs hn hp port false pn pl hq q hf fg bare sp rst).ao) sc us pw hk hs hn hp port pn pl hq q hf fg bare sp rst:=fun x ⟨h1,h2,h3⟩=>by
 have er:=Ea x
 have e_sc:x.aZ.1.sc=x.sc:=(by have h:=congrArg RS.sc er;exact h)
 have e_opq:x.aZ.1.opq=x.opq:=(by have h:=congrArg RS.opq er;exact h)
 have e_pn:x.aZ.1.pn=x.pn:=(by have h:=congrArg RS.pn er;exact h)
 have e_pl:x.aZ.1.pl=x.pl:=(by have h:=congrArg RS.pl er;exact h)
 have e_hq:x.aZ.1.hq=x.hq:=(by have h:=congrArg RS.hq er;exact h)
 have e_q:x.aZ.1.q=x.q:=(by have h:=congrArg RS.q er;exact h)
 have e_hf:x.aZ.1.hf=x.hf:=(by have h:=congrArg RS.hf er;exact h)
 have e_fg:x.aZ.1.fg=x.fg:=(by have h:=congrArg RS.fg er;exact h)
 have e_bare:x.aZ.1.bare=x.bare:=(by have h:=congrArg RS.bare er;exact h)
 have e_sp:x.aZ.1.sp=x.sp:=(by have h:=congrArg RS.sp er;exact h)
 have e_rst:x.aZ.1.rst=aa x.rst (ah x.sp x.rst):=(by have h:=congrArg RS.rst er;exact h)
 have hl:=cQ x.rst (ah x.sp x.rst)
 have hl2:=iQ (aa x.rst (ah x.sp x.rst))
 have hs1:=mS x.sp (aa x.rst (ah x.sp x.rst))
 have pl1:∀R:Bs,R.length≤x.rst.length→(aa R (aF R)).length≤300000∧(bL (aa R (aF R))).length≤300000:=fun R hR=>by
  have a:=cQ R (aF R)
  have b:=iQ (aa R (aF R))
  omega
 have ea:x.bz=if x.aZ.2=0 then(if x.aZ.1.sp=false∧bT x.aZ.1.rst=true then(x.aZ.1.tail,0)else(x.aZ.1.shl.path.tail,0))else x.aZ:=rfl
 have fin:x.bz=(x.aZ.1.shl.path.tail,0)→KT x.bz (.int .i64 0) [ob {x with us:=x.aZ.1.us,pw:=x.aZ.1.pw,hk:=x.aZ.1.hk,hs:=x.aZ.1.hs,hn:=x.aZ.1.hn,hp:=x.aZ.1.hp,port:=x.aZ.1.port,pn:=(bt x.sp x.sc (ae (if az x.sp (aa x.rst (ah x.sp x.rst)) 0=true then aa (aa x.rst (ah x.sp x.rst)) 1 else aa x.rst (ah x.sp x.rst)) (aF (if az x.sp (aa x.rst (ah x.sp x.rst)) 0=true then aa (aa x.rst (ah x.sp x.rst)) 1 else aa x.rst (ah x.sp x.rst)))) (x.pn,x.pl)).1,pl:=(bt x.sp x.sc (ae (if az x.sp (aa x.rst (ah x.sp x.rst)) 0=true then aa (aa x.rst (ah x.sp x.rst)) 1 else aa x.rst (ah x.sp x.rst)) (aF (if az x.sp (aa x.rst (ah x.sp x.rst)) 0=true then aa (aa x.rst (ah x.sp x.rst)) 1 else aa x.rst (ah x.sp x.rst)))) (x.pn,x.pl)).2,hq:=ee (aa (if az x.sp (aa x.rst (ah x.sp x.rst)) 0=true then aa (aa x.rst (ah x.sp x.rst)) 1 else aa x.rst (ah x.sp x.rst)) (aF (if az x.sp (aa x.rst (ah x.sp x.rst)) 0=true then aa (aa x.rst (ah x.sp x.rst)) 1 else aa x.rst (ah x.sp x.rst)))) x.hq,q:=eh x.sp (aa (if az x.sp (aa x.rst (ah x.sp x.rst)) 0=true then aa (aa x.rst (ah x.sp x.rst)) 1 else aa x.rst (ah x.sp x.rst)) (aF (if az x.sp (aa x.rst (ah x.sp x.rst)) 0=true then aa (aa x.rst (ah x.sp x.rst)) 1 else aa x.rst (ah x.sp x.rst)))) x.q,hf:=ei (bL (aa (if az x.sp (aa x.rst (ah x.sp x.rst)) 0=true then aa (aa x.rst (ah x.sp x.rst)) 1 else aa x.rst (ah x.sp x.rst)) (aF (if az x.sp (aa x.rst (ah x.sp x.rst)) 0=true then aa (aa x.rst (ah x.sp x.rst)) 1 else aa x.rst (ah x.sp x.rst))))) x.hf,fg:=ej (bL (aa (if az x.sp (aa x.rst (ah x.sp x.rst)) 0=true then aa (aa x.rst (ah x.sp x.rst)) 1 else aa x.rst (ah x.sp x.rst)) (aF (if az x.sp (aa x.rst (ah x.sp x.rst)) 0=true then aa (aa x.rst (ah x.sp x.rst)) 1 else aa x.rst (ah x.sp x.rst))))) x.fg,rst:=en (bL (aa (if az x.sp (aa x.rst (ah x.sp x.rst)) 0=true then aa (aa x.rst (ah x.sp x.rst)) 1 else aa x.rst (ah x.sp x.rst)) (aF (if az x.sp (aa x.rst (ah x.sp x.rst)) 0=true then aa (aa x.rst (ah x.sp x.rst)) 1 else aa x.rst (ah x.sp x.rst)))))}]:=fun h=>by
  rw [h]
  refine ⟨rfl,?_⟩
  show [ob _]=[ob x.aZ.1.shl.path.tail]
  rw [jo]
  unfold RS.path RS.shl
  dsimp only
  simp only [e_sc,e_opq,e_pn,e_pl,e_hq,e_q,e_hf,e_fg,e_bare,e_sp,e_rst]
 rw [h1]
 refine ⟨show x.rst.length≤300000 from h2,fun hc=>?_,fun hc=>⟨fun hs=>⟨trivial,fun ht=>⟨show(aa x.rst (ah x.sp x.rst)).length≤300000 by omega,show(bL (aa x.rst (ah x.sp x.rst))).length≤300000 by omega,?_⟩,fun ht=>⟨trivial,⟨by omega,h3⟩,(pl1 _ (by omega)).1,(pl1 _ (by omega)).2,?_⟩⟩,fun hs=>⟨fun h=>(by cases h),fun _=>⟨trivial,⟨by omega,h3⟩,(pl1 _ (by omega)).1,(pl1 _ (by omega)).2,?_⟩⟩⟩⟩
 ·have hc':¬x.aZ.2=0:=by simpa using hc
  rw [ea,if_neg hc']
  exact ⟨rfl,congrArg (fun r=>[ob r]) er.symm⟩
 ·have hc':x.aZ.2=0:=by simpa using hc
  have hs':x.sp=false:=by simpa using hs
  rw [ea,if_pos hc',if_pos ⟨by rw [e_sp];exact hs',by rw [e_rst];exact ht⟩]
  refine ⟨rfl,?_⟩
  show _=[ob x.aZ.1.tail]
  rw [jo]
  simp only [e_sc,e_opq,e_pn,e_pl,e_hq,e_q,e_hf,e_fg,e_bare,e_sp,e_rst]
  rfl
 ·have hc':x.aZ.2=0:=by simpa using hc
  exact fin (by rw [ea,if_pos hc',if_neg (by rintro ⟨-,h⟩;rw [e_rst]at h;rw [ht]at h;cases h)])
 ·have hc':x.aZ.2=0:=by simpa using hc
  have hs':x.sp=true:=by simpa using hs
  exact fin (by rw [ea,if_pos hc',if_neg (by rintro ⟨h,-⟩;rw [e_sp,hs']at h;cases h)])
def ym:cq:=bR [(75,j8),(76,n5),(77,gy),(78,da),(79,gb),(80,jY),(81,lB),(82,gx),(88,ie),(89,lz),(84,fE),(90,mK),(91,nX),(92,jm),(91,lC),(92,ig)]
def yn(sc us pw:Bs)(hk:Int)(hs:Bs)(hn:Int)(hp:List Int)(port:Int)(pn:Bool)(pl:List Bs)(hq:Bool)(q:Bs)(hf:Bool)(fg:Bs)(bare sp:Bool)(rst:Bs):ba:=fun i=>bif Nat.beq i 1000002 then some ⟨(RS),(fun s x=>(VS.mk s.loc s.env [(0,aE 1 (.raw (.pointer none)) (x.sc) (x.us) (x.pw) (x.hk) (x.hs) (x.hn) (x.hp) (x.port) (x.opq) (x.pn) (x.pl) (x.hq) (x.q) (x.hf) (x.fg) (x.bare) (x.sp) (x.rst))])),(fun s=>RS.mk (s.bx 0 [0,0]).dd (s.bx 0 [0,1]).dd (s.bx 0 [0,2]).dd (s.bx 0 [0,3,0]).asInt (s.bx 0 [0,3,1]).dd (s.bx 0 [0,3,2]).asInt (s.bx 0 [0,3,3]).mV (s.bx 0 [0,4]).asInt (s.bx 0 [0,5]).asBool (s.bx 0 [0,6]).lL (s.bx 0 [0,6]).kQ (s.bx 0 [0,7]).asBool (s.bx 0 [0,8]).dd (s.bx 0 [0,9]).asBool (s.bx 0 [0,10]).dd (s.bx 0 [2]).asBool (s.bx 0 [3]).asBool (s.bx 0 [4]).dd),(fun s x=>let r:=x;(RS.mk sc us pw hk hs hn hp port false pn pl hq q hf fg bare sp rst).ao=r.bz∧r.rst.length≤300000∧r.pl.length≤100000),(fun s x=>let r:=x;0),[]⟩else bif Nat.beq i 1000003 then some ⟨(RS),(fun s x=>(VS.mk s.loc s.env [(0,aE 1 (.raw (.pointer none)) (x.sc) (x.us) (x.pw) (x.hk) (x.hs) (x.hn) (x.hp) (x.port) (x.opq) (x.pn) (x.pl) (x.hq) (x.q) (x.hf) (x.fg) (x.bare) (x.sp) (x.rst))])),(fun s=>RS.mk (s.bx 0 [0,0]).dd (s.bx 0 [0,1]).dd (s.bx 0 [0,2]).dd (s.bx 0 [0,3,0]).asInt (s.bx 0 [0,3,1]).dd (s.bx 0 [0,3,2]).asInt (s.bx 0 [0,3,3]).mV (s.bx 0 [0,4]).asInt (s.bx 0 [0,5]).asBool (s.bx 0 [0,6]).lL (s.bx 0 [0,6]).kQ (s.bx 0 [0,7]).asBool (s.bx 0 [0,8]).dd (s.bx 0 [0,9]).asBool (s.bx 0 [0,10]).dd (s.bx 0 [2]).asBool (s.bx 0 [3]).asBool (s.bx 0 [4]).dd),(fun s x=>let r:=x;(RS.mk sc us pw hk hs hn hp port false pn pl hq q hf fg bare sp rst).ao=(r.path.tail,0)∧r.rst.length≤300000∧r.pl.length≤100000),(fun s x=>let r:=x;0),[]⟩else bif Nat.beq i 1000001 then some ⟨(RS),(fun s x=>(VS.mk [] [] [])),(fun s=>RS.mk (s.bx 0 [0,0]).dd (s.bx 0 [0,1]).dd (s.bx 0 [0,2]).dd (s.bx 0 [0,3,0]).asInt (s.bx 0 [0,3,1]).dd (s.bx 0 [0,3,2]).asInt (s.bx 0 [0,3,3]).mV (s.bx 0 [0,4]).asInt (s.bx 0 [0,5]).asBool (s.bx 0 [0,6]).lL (s.bx 0 [0,6]).kQ (s.bx 0 [0,7]).asBool (s.bx 0 [0,8]).dd (s.bx 0 [0,9]).asBool (s.bx 0 [0,10]).dd (s.bx 0 [2]).asBool (s.bx 0 [3]).asBool (s.bx 0 [4]).dd),(fun s x=>let r:=x;False),(fun s x=>let r:=x;0),[]⟩else none
theorem yo:cS Tryz.prog aA ym:=ai rD (ai vM (ai gu (ai cK (ai ly (ai jZ (ai sk (ai gr (ai nV (ai sh (ai iP (ai oV (ai vC (ai o7 (ai sl (ai nZ (ax))))))))))))))))
theorem Ec(sc us pw:Bs)(hk:Int)(hs:Bs)(hn:Int)(hp:List Int)(port:Int)(pn:Bool)(pl:List Bs)(hq:Bool)(q:Bs)(hf:Bool)(fg:Bs)(bare sp:Bool)(rst:Bs)(k:PV→List PV→Prop):bQ Tryz.prog ym aA (yn sc us pw hk hs hn hp port pn pl hq q hf fg bare sp rst) 1000 Tryz.f47 [.ptr 0 0] [aE 1 (.raw (.pointer none)) sc us pw hk hs hn hp port false pn pl hq q hf fg bare sp rst] k=(
 (List.length rst≤(300000:Nat)∧
 (ab rst rst (0:Nat)).2.2=true)∧
 ((!decide ((0:Int)=(0:Int)))=true→
 k (PV.int .i64 (0:Int)) [bV (PV.raw (Go.Value.pointer none)) 1 ((ab rst rst (0:Nat)).1) us pw hk hs hn hp port false pn pl hq q hf fg false (ay (ab rst rst (0:Nat)).1) ((ab rst rst (0:Nat)).2.1)])∧
 ((!decide ((0:Int)=(0:Int)))=false→
 (false=true→
 (List.length (ab rst rst (0:Nat)).2.1).le (300000:Nat)∧
 (List.length (bL (ab rst rst (0:Nat)).2.1)).le (300000:Nat)∧
 k (PV.int .i64 (0:Int)) [bV (PV.raw (Go.Value.pointer none)) 1 ((ab rst rst (0:Nat)).1) us pw hk hs hn hp port false pn pl (ee (ab rst rst (0:Nat)).2.1 hq) (eh (ay (ab rst rst (0:Nat)).1) (ab rst rst (0:Nat)).2.1 q) (ei (bL (ab rst rst (0:Nat)).2.1) hf) (ej (bL (ab rst rst (0:Nat)).2.1) fg) false (ay (ab rst rst (0:Nat)).1) (en (bL (ab rst rst (0:Nat)).2.1))])∧
 (false=false→
 (decide ((ab rst rst (0:Nat)).1=(ByteArray.mk #[102,105,108,101]).data.toList)=true→
 (List.length (ab rst rst (0:Nat)).2.1≤(300000:Nat)∧
 pl.length≤(100000:Nat))∧
 ((!decide ((RS.mk (ab rst rst (0:Nat)).1 us pw hk hs hn hp port false pn pl hq q hf fg false (ay (ab rst rst (0:Nat)).1) (ab rst rst (0:Nat)).2.1).aS.2=(0:Int)))=true→
 k (PV.int .i64 (RS.mk (ab rst rst (0:Nat)).1 us pw hk hs hn hp port false pn pl hq q hf fg false (ay (ab rst rst (0:Nat)).1) (ab rst rst (0:Nat)).2.1).aS.2) [bV (PV.raw (Go.Value.pointer none)) 1 ((ab rst rst (0:Nat)).1) us pw ((RS.mk (ab rst rst (0:Nat)).1 us pw hk hs hn hp port false pn pl hq q hf fg false (ay (ab rst rst (0:Nat)).1) (ab rst rst (0:Nat)).2.1).aS.1.hk) ((RS.mk (ab rst rst (0:Nat)).1 us pw hk hs hn hp port false pn pl hq q hf fg false (ay (ab rst rst (0:Nat)).1) (ab rst rst (0:Nat)).2.1).aS.1.hs) ((RS.mk (ab rst rst (0:Nat)).1 us pw hk hs hn hp port false pn pl hq q hf fg false (ay (ab rst rst (0:Nat)).1) (ab rst rst (0:Nat)).2.1).aS.1.hn) ((RS.mk (ab rst rst (0:Nat)).1 us pw hk hs hn hp port false pn pl hq q hf fg false (ay (ab rst rst (0:Nat)).1) (ab rst rst (0:Nat)).2.1).aS.1.hp) port false ((RS.mk (ab rst rst (0:Nat)).1 us pw hk hs hn hp port false pn pl hq q hf fg false (ay (ab rst rst (0:Nat)).1) (ab rst rst (0:Nat)).2.1).aS.1.pn) ((RS.mk (ab rst rst (0:Nat)).1 us pw hk hs hn hp port false pn pl hq q hf fg false (ay (ab rst rst (0:Nat)).1) (ab rst rst (0:Nat)).2.1).aS.1.pl) hq q hf fg false (ay (ab rst rst (0:Nat)).1) ((RS.mk (ab rst rst (0:Nat)).1 us pw hk hs hn hp port false pn pl hq q hf fg false (ay (ab rst rst (0:Nat)).1) (ab rst rst (0:Nat)).2.1).aS.1.rst)])∧
 ((!decide ((RS.mk (ab rst rst (0:Nat)).1 us pw hk hs hn hp port false pn pl hq q hf fg false (ay (ab rst rst (0:Nat)).1) (ab rst rst (0:Nat)).2.1).aS.2=(0:Int)))=false→
 (List.length (RS.mk (ab rst rst (0:Nat)).1 us pw hk hs hn hp port false pn pl hq q hf fg false (ay (ab rst rst (0:Nat)).1) (ab rst rst (0:Nat)).2.1).aS.1.rst).le (300000:Nat)∧
 (List.length (bL (RS.mk (ab rst rst (0:Nat)).1 us pw hk hs hn hp port false pn pl hq q hf fg false (ay (ab rst rst (0:Nat)).1) (ab rst rst (0:Nat)).2.1).aS.1.rst)).le (300000:Nat)∧
 k (PV.int .i64 (0:Int)) [bV (PV.raw (Go.Value.pointer none)) 1 ((ab rst rst (0:Nat)).1) us pw ((RS.mk (ab rst rst (0:Nat)).1 us pw hk hs hn hp port false pn pl hq q hf fg false (ay (ab rst rst (0:Nat)).1) (ab rst rst (0:Nat)).2.1).aS.1.hk) ((RS.mk (ab rst rst (0:Nat)).1 us pw hk hs hn hp port false pn pl hq q hf fg false (ay (ab rst rst (0:Nat)).1) (ab rst rst (0:Nat)).2.1).aS.1.hs) ((RS.mk (ab rst rst (0:Nat)).1 us pw hk hs hn hp port false pn pl hq q hf fg false (ay (ab rst rst (0:Nat)).1) (ab rst rst (0:Nat)).2.1).aS.1.hn) ((RS.mk (ab rst rst (0:Nat)).1 us pw hk hs hn hp port false pn pl hq q hf fg false (ay (ab rst rst (0:Nat)).1) (ab rst rst (0:Nat)).2.1).aS.1.hp) port false ((RS.mk (ab rst rst (0:Nat)).1 us pw hk hs hn hp port false pn pl hq q hf fg false (ay (ab rst rst (0:Nat)).1) (ab rst rst (0:Nat)).2.1).aS.1.pn) ((RS.mk (ab rst rst (0:Nat)).1 us pw hk hs hn hp port false pn pl hq q hf fg false (ay (ab rst rst (0:Nat)).1) (ab rst rst (0:Nat)).2.1).aS.1.pl) (ee (RS.mk (ab rst rst (0:Nat)).1 us pw hk hs hn hp port false pn pl hq q hf fg false (ay (ab rst rst (0:Nat)).1) (ab rst rst (0:Nat)).2.1).aS.1.rst hq) (eh (ay (ab rst rst (0:Nat)).1) (RS.mk (ab rst rst (0:Nat)).1 us pw hk hs hn hp port false pn pl hq q hf fg false (ay (ab rst rst (0:Nat)).1) (ab rst rst (0:Nat)).2.1).aS.1.rst q) (ei (bL (RS.mk (ab rst rst (0:Nat)).1 us pw hk hs hn hp port false pn pl hq q hf fg false (ay (ab rst rst (0:Nat)).1) (ab rst rst (0:Nat)).2.1).aS.1.rst) hf) (ej (bL (RS.mk (ab rst rst (0:Nat)).1 us pw hk hs hn hp port false pn pl hq q hf fg false (ay (ab rst rst (0:Nat)).1) (ab rst rst (0:Nat)).2.1).aS.1.rst) fg) false (ay (ab rst rst (0:Nat)).1) (en (bL (RS.mk (ab rst rst (0:Nat)).1 us pw hk hs hn hp port false pn pl hq q hf fg false (ay (ab rst rst (0:Nat)).1) (ab rst rst (0:Nat)).2.1).aS.1.rst))]))∧
 (decide ((ab rst rst (0:Nat)).1=(ByteArray.mk #[102,105,108,101]).data.toList)=false→
 (false=false→
 (ay (ab rst rst (0:Nat)).1=true→
 True∧
 (false=false→
 false=true→
 True)∧
 (false=true→
 VS.mk [] [(0,PV.ptr (0:Nat) (0:Nat)),(2,PV.int .i64 (0:Int)),(3,PV.int .i64 (0:Int)),(6,PV.bool !decide ((0:Int)=(0:Int))),(10,PV.bool false),(16,PV.bool (decide ((ab rst rst (0:Nat)).1=(ByteArray.mk #[102,105,108,101]).data.toList))),(26,PV.undef),(28,PV.bool false),(51,PV.undef),(58,PV.undef),(61,PV.undef),(71,PV.undef),(77,PV.undef),(81,PV.undef),(87,PV.undef),(97,PV.undef)] [((0:Nat),bV (PV.raw (Go.Value.pointer none)) 1 ((ab rst rst (0:Nat)).1) us pw hk hs hn hp port false pn pl hq q hf fg false (ay (ab rst rst (0:Nat)).1) ((ab rst rst (0:Nat)).2.1))]=VS.mk [] [] []∧
 False∧
 ∀(x:RS),False→
 False)∧
 (false=false→
 (ay (ab rst rst (0:Nat)).1=true→
 (List.length (ab rst rst (0:Nat)).2.1).le (300000:Nat)∧
 VS.mk [] [(0,PV.ptr (0:Nat) (0:Nat)),(2,PV.int .i64 (0:Int)),(3,PV.int .i64 (0:Int)),(6,PV.bool !decide ((0:Int)=(0:Int))),(10,PV.bool false),(16,PV.bool (decide ((ab rst rst (0:Nat)).1=(ByteArray.mk #[102,105,108,101]).data.toList))),(26,PV.undef),(28,PV.bool false),(51,PV.bool (ay (ab rst rst (0:Nat)).1)),(58,PV.undef),(61,PV.undef),(71,PV.undef),(77,PV.undef),(81,PV.undef),(87,PV.undef),(97,PV.undef)] [((0:Nat),bV (PV.raw (Go.Value.pointer none)) 1 ((ab rst rst (0:Nat)).1) us pw hk hs hn hp port false pn pl hq q hf fg false (ay (ab rst rst (0:Nat)).1) (aC (List.length (ab rst rst (0:Nat)).2.1) (ay (ab rst rst (0:Nat)).1) (0:Int) (ab rst rst (0:Nat)).2.1))]=VS.mk [] [(0,PV.ptr (0:Nat) (0:Nat)),(2,PV.int .i64 (0:Int)),(3,PV.int .i64 (0:Int)),(6,PV.bool !decide ((0:Int)=(0:Int))),(10,PV.bool false),(16,PV.bool (decide ((ab rst rst (0:Nat)).1=(ByteArray.mk #[102,105,108,101]).data.toList))),(26,PV.undef),(28,PV.bool false),(51,PV.bool (ay (ab rst rst (0:Nat)).1)),(58,PV.undef),(61,PV.undef),(71,PV.undef),(77,PV.undef),(81,PV.undef),(87,PV.undef),(97,PV.undef)] [((0:Nat),bV (PV.raw (Go.Value.pointer none)) 1 ((RS.mk (ab rst rst (0:Nat)).1 us pw hk hs hn hp port false pn pl hq q hf fg false (ay (ab rst rst (0:Nat)).1) (aC (List.length (ab rst rst (0:Nat)).2.1) (ay (ab rst rst (0:Nat)).1) (0:Int) (ab rst rst (0:Nat)).2.1)).sc) ((RS.mk (ab rst rst (0:Nat)).1 us pw hk hs hn hp port false pn pl hq q hf fg false (ay (ab rst rst (0:Nat)).1) (aC (List.length (ab rst rst (0:Nat)).2.1) (ay (ab rst rst (0:Nat)).1) (0:Int) (ab rst rst (0:Nat)).2.1)).us) ((RS.mk (ab rst rst (0:Nat)).1 us pw hk hs hn hp port false pn pl hq q hf fg false (ay (ab rst rst (0:Nat)).1) (aC (List.length (ab rst rst (0:Nat)).2.1) (ay (ab rst rst (0:Nat)).1) (0:Int) (ab rst rst (0:Nat)).2.1)).pw) ((RS.mk (ab rst rst (0:Nat)).1 us pw hk hs hn hp port false pn pl hq q hf fg false (ay (ab rst rst (0:Nat)).1) (aC (List.length (ab rst rst (0:Nat)).2.1) (ay (ab rst rst (0:Nat)).1) (0:Int) (ab rst rst (0:Nat)).2.1)).hk) ((RS.mk (ab rst rst (0:Nat)).1 us pw hk hs hn hp port false pn pl hq q hf fg false (ay (ab rst rst (0:Nat)).1) (aC (List.length (ab rst rst (0:Nat)).2.1) (ay (ab rst rst (0:Nat)).1) (0:Int) (ab rst rst (0:Nat)).2.1)).hs) ((RS.mk (ab rst rst (0:Nat)).1 us pw hk hs hn hp port false pn pl hq q hf fg false (ay (ab rst rst (0:Nat)).1) (aC (List.length (ab rst rst (0:Nat)).2.1) (ay (ab rst rst (0:Nat)).1) (0:Int) (ab rst rst (0:Nat)).2.1)).hn) ((RS.mk (ab rst rst (0:Nat)).1 us pw hk hs hn hp port false pn pl hq q hf fg false (ay (ab rst rst (0:Nat)).1) (aC (List.length (ab rst rst (0:Nat)).2.1) (ay (ab rst rst (0:Nat)).1) (0:Int) (ab rst rst (0:Nat)).2.1)).hp) ((RS.mk (ab rst rst (0:Nat)).1 us pw hk hs hn hp port false pn pl hq q hf fg false (ay (ab rst rst (0:Nat)).1) (aC (List.length (ab rst rst (0:Nat)).2.1) (ay (ab rst rst (0:Nat)).1) (0:Int) (ab rst rst (0:Nat)).2.1)).port) ((RS.mk (ab rst rst (0:Nat)).1 us pw hk hs hn hp port false pn pl hq q hf fg false (ay (ab rst rst (0:Nat)).1) (aC (List.length (ab rst rst (0:Nat)).2.1) (ay (ab rst rst (0:Nat)).1) (0:Int) (ab rst rst (0:Nat)).2.1)).opq) ((RS.mk (ab rst rst (0:Nat)).1 us pw hk hs hn hp port false pn pl hq q hf fg false (ay (ab rst rst (0:Nat)).1) (aC (List.length (ab rst rst (0:Nat)).2.1) (ay (ab rst rst (0:Nat)).1) (0:Int) (ab rst rst (0:Nat)).2.1)).pn) ((RS.mk (ab rst rst (0:Nat)).1 us pw hk hs hn hp port false pn pl hq q hf fg false (ay (ab rst rst (0:Nat)).1) (aC (List.length (ab rst rst (0:Nat)).2.1) (ay (ab rst rst (0:Nat)).1) (0:Int) (ab rst rst (0:Nat)).2.1)).pl) ((RS.mk (ab rst rst (0:Nat)).1 us pw hk hs hn hp port false pn pl hq q hf fg false (ay (ab rst rst (0:Nat)).1) (aC (List.length (ab rst rst (0:Nat)).2.1) (ay (ab rst rst (0:Nat)).1) (0:Int) (ab rst rst (0:Nat)).2.1)).hq) ((RS.mk (ab rst rst (0:Nat)).1 us pw hk hs hn hp port false pn pl hq q hf fg false (ay (ab rst rst (0:Nat)).1) (aC (List.length (ab rst rst (0:Nat)).2.1) (ay (ab rst rst (0:Nat)).1) (0:Int) (ab rst rst (0:Nat)).2.1)).q) ((RS.mk (ab rst rst (0:Nat)).1 us pw hk hs hn hp port false pn pl hq q hf fg false (ay (ab rst rst (0:Nat)).1) (aC (List.length (ab rst rst (0:Nat)).2.1) (ay (ab rst rst (0:Nat)).1) (0:Int) (ab rst rst (0:Nat)).2.1)).hf) ((RS.mk (ab rst rst (0:Nat)).1 us pw hk hs hn hp port false pn pl hq q hf fg false (ay (ab rst rst (0:Nat)).1) (aC (List.length (ab rst rst (0:Nat)).2.1) (ay (ab rst rst (0:Nat)).1) (0:Int) (ab rst rst (0:Nat)).2.1)).fg) ((RS.mk (ab rst rst (0:Nat)).1 us pw hk hs hn hp port false pn pl hq q hf fg false (ay (ab rst rst (0:Nat)).1) (aC (List.length (ab rst rst (0:Nat)).2.1) (ay (ab rst rst (0:Nat)).1) (0:Int) (ab rst rst (0:Nat)).2.1)).bare) ((RS.mk (ab rst rst (0:Nat)).1 us pw hk hs hn hp port false pn pl hq q hf fg false (ay (ab rst rst (0:Nat)).1) (aC (List.length (ab rst rst (0:Nat)).2.1) (ay (ab rst rst (0:Nat)).1) (0:Int) (ab rst rst (0:Nat)).2.1)).sp) ((RS.mk (ab rst rst (0:Nat)).1 us pw hk hs hn hp port false pn pl hq q hf fg false (ay (ab rst rst (0:Nat)).1) (aC (List.length (ab rst rst (0:Nat)).2.1) (ay (ab rst rst (0:Nat)).1) (0:Int) (ab rst rst (0:Nat)).2.1)).rst))]∧
 ((RS.mk sc us pw hk hs hn hp port false pn pl hq q hf fg bare sp rst).ao=(RS.mk (ab rst rst (0:Nat)).1 us pw hk hs hn hp port false pn pl hq q hf fg false (ay (ab rst rst (0:Nat)).1) (aC (List.length (ab rst rst (0:Nat)).2.1) (ay (ab rst rst (0:Nat)).1) (0:Int) (ab rst rst (0:Nat)).2.1)).bz∧
 List.length (RS.mk (ab rst rst (0:Nat)).1 us pw hk hs hn hp port false pn pl hq q hf fg false (ay (ab rst rst (0:Nat)).1) (aC (List.length (ab rst rst (0:Nat)).2.1) (ay (ab rst rst (0:Nat)).1) (0:Int) (ab rst rst (0:Nat)).2.1)).rst≤(300000:Nat)∧
 (RS.mk (ab rst rst (0:Nat)).1 us pw hk hs hn hp port false pn pl hq q hf fg false (ay (ab rst rst (0:Nat)).1) (aC (List.length (ab rst rst (0:Nat)).2.1) (ay (ab rst rst (0:Nat)).1) (0:Int) (ab rst rst (0:Nat)).2.1)).pl.length≤(100000:Nat))∧
 AU k sc us pw hk hs hn hp port pn pl hq q hf fg bare sp rst)∧
 (ay (ab rst rst (0:Nat)).1=false→
 True∧
 ((aj (ab rst rst (0:Nat)).2.1 (ByteArray.mk #[47,47]).data.toList).2=true→
 VS.mk [] [(0,PV.ptr (0:Nat) (0:Nat)),(2,PV.int .i64 (0:Int)),(3,PV.int .i64 (0:Int)),(6,PV.bool !decide ((0:Int)=(0:Int))),(10,PV.bool false),(16,PV.bool (decide ((ab rst rst (0:Nat)).1=(ByteArray.mk #[102,105,108,101]).data.toList))),(26,PV.undef),(28,PV.bool false),(51,PV.bool (ay (ab rst rst (0:Nat)).1)),(58,PV.bool (aj (ab rst rst (0:Nat)).2.1 (ByteArray.mk #[47,47]).data.toList).2),(61,PV.undef),(71,PV.undef),(77,PV.undef),(81,PV.undef),(87,PV.undef),(97,PV.undef)] [((0:Nat),bV (PV.raw (Go.Value.pointer none)) 1 ((ab rst rst (0:Nat)).1) us pw hk hs hn hp port false pn pl hq q hf fg false (ay (ab rst rst (0:Nat)).1) ((aj (ab rst rst (0:Nat)).2.1 (ByteArray.mk #[47,47]).data.toList).1))]=VS.mk [] [(0,PV.ptr (0:Nat) (0:Nat)),(2,PV.int .i64 (0:Int)),(3,PV.int .i64 (0:Int)),(6,PV.bool !decide ((0:Int)=(0:Int))),(10,PV.bool false),(16,PV.bool (decide ((ab rst rst (0:Nat)).1=(ByteArray.mk #[102,105,108,101]).data.toList))),(26,PV.undef),(28,PV.bool false),(51,PV.bool (ay (ab rst rst (0:Nat)).1)),(58,PV.bool (aj (ab rst rst (0:Nat)).2.1 (ByteArray.mk #[47,47]).data.toList).2),(61,PV.undef),(71,PV.undef),(77,PV.undef),(81,PV.undef),(87,PV.undef),(97,PV.undef)] [((0:Nat),bV (PV.raw (Go.Value.pointer none)) 1 ((RS.mk (ab rst rst (0:Nat)).1 us pw hk hs hn hp port false pn pl hq q hf fg false (ay (ab rst rst (0:Nat)).1) (aj (ab rst rst (0:Nat)).2.1 (ByteArray.mk #[47,47]).data.toList).1).sc) ((RS.mk (ab rst rst (0:Nat)).1 us pw hk hs hn hp port false pn pl hq q hf fg false (ay (ab rst rst (0:Nat)).1) (aj (ab rst rst (0:Nat)).2.1 (ByteArray.mk #[47,47]).data.toList).1).us) ((RS.mk (ab rst rst (0:Nat)).1 us pw hk hs hn hp port false pn pl hq q hf fg false (ay (ab rst rst (0:Nat)).1) (aj (ab rst rst (0:Nat)).2.1 (ByteArray.mk #[47,47]).data.toList).1).pw) ((RS.mk (ab rst rst (0:Nat)).1 us pw hk hs hn hp port false pn pl hq q hf fg false (ay (ab rst rst (0:Nat)).1) (aj (ab rst rst (0:Nat)).2.1 (ByteArray.mk #[47,47]).data.toList).1).hk) ((RS.mk (ab rst rst (0:Nat)).1 us pw hk hs hn hp port false pn pl hq q hf fg false (ay (ab rst rst (0:Nat)).1) (aj (ab rst rst (0:Nat)).2.1 (ByteArray.mk #[47,47]).data.toList).1).hs) ((RS.mk (ab rst rst (0:Nat)).1 us pw hk hs hn hp port false pn pl hq q hf fg false (ay (ab rst rst (0:Nat)).1) (aj (ab rst rst (0:Nat)).2.1 (ByteArray.mk #[47,47]).data.toList).1).hn) ((RS.mk (ab rst rst (0:Nat)).1 us pw hk hs hn hp port false pn pl hq q hf fg false (ay (ab rst rst (0:Nat)).1) (aj (ab rst rst (0:Nat)).2.1 (ByteArray.mk #[47,47]).data.toList).1).hp) ((RS.mk (ab rst rst (0:Nat)).1 us pw hk hs hn hp port false pn pl hq q hf fg false (ay (ab rst rst (0:Nat)).1) (aj (ab rst rst (0:Nat)).2.1 (ByteArray.mk #[47,47]).data.toList).1).port) ((RS.mk (ab rst rst (0:Nat)).1 us pw hk hs hn hp port false pn pl hq q hf fg false (ay (ab rst rst (0:Nat)).1) (aj (ab rst rst (0:Nat)).2.1 (ByteArray.mk #[47,47]).data.toList).1).opq) ((RS.mk (ab rst rst (0:Nat)).1 us pw hk hs hn hp port false pn pl hq q hf fg false (ay (ab rst rst (0:Nat)).1) (aj (ab rst rst (0:Nat)).2.1 (ByteArray.mk #[47,47]).data.toList).1).pn) ((RS.mk (ab rst rst (0:Nat)).1 us pw hk hs hn hp port false pn pl hq q hf fg false (ay (ab rst rst (0:Nat)).1) (aj (ab rst rst (0:Nat)).2.1 (ByteArray.mk #[47,47]).data.toList).1).pl) ((RS.mk (ab rst rst (0:Nat)).1 us pw hk hs hn hp port false pn pl hq q hf fg false (ay (ab rst rst (0:Nat)).1) (aj (ab rst rst (0:Nat)).2.1 (ByteArray.mk #[47,47]).data.toList).1).hq) ((RS.mk (ab rst rst (0:Nat)).1 us pw hk hs hn hp port false pn pl hq q hf fg false (ay (ab rst rst (0:Nat)).1) (aj (ab rst rst (0:Nat)).2.1 (ByteArray.mk #[47,47]).data.toList).1).q) ((RS.mk (ab rst rst (0:Nat)).1 us pw hk hs hn hp port false pn pl hq q hf fg false (ay (ab rst rst (0:Nat)).1) (aj (ab rst rst (0:Nat)).2.1 (ByteArray.mk #[47,47]).data.toList).1).hf) ((RS.mk (ab rst rst (0:Nat)).1 us pw hk hs hn hp port false pn pl hq q hf fg false (ay (ab rst rst (0:Nat)).1) (aj (ab rst rst (0:Nat)).2.1 (ByteArray.mk #[47,47]).data.toList).1).fg) ((RS.mk (ab rst rst (0:Nat)).1 us pw hk hs hn hp port false pn pl hq q hf fg false (ay (ab rst rst (0:Nat)).1) (aj (ab rst rst (0:Nat)).2.1 (ByteArray.mk #[47,47]).data.toList).1).bare) ((RS.mk (ab rst rst (0:Nat)).1 us pw hk hs hn hp port false pn pl hq q hf fg false (ay (ab rst rst (0:Nat)).1) (aj (ab rst rst (0:Nat)).2.1 (ByteArray.mk #[47,47]).data.toList).1).sp) ((RS.mk (ab rst rst (0:Nat)).1 us pw hk hs hn hp port false pn pl hq q hf fg false (ay (ab rst rst (0:Nat)).1) (aj (ab rst rst (0:Nat)).2.1 (ByteArray.mk #[47,47]).data.toList).1).rst))]∧
 ((RS.mk sc us pw hk hs hn hp port false pn pl hq q hf fg bare sp rst).ao=(RS.mk (ab rst rst (0:Nat)).1 us pw hk hs hn hp port false pn pl hq q hf fg false (ay (ab rst rst (0:Nat)).1) (aj (ab rst rst (0:Nat)).2.1 (ByteArray.mk #[47,47]).data.toList).1).bz∧
 List.length (RS.mk (ab rst rst (0:Nat)).1 us pw hk hs hn hp port false pn pl hq q hf fg false (ay (ab rst rst (0:Nat)).1) (aj (ab rst rst (0:Nat)).2.1 (ByteArray.mk #[47,47]).data.toList).1).rst≤(300000:Nat)∧
 (RS.mk (ab rst rst (0:Nat)).1 us pw hk hs hn hp port false pn pl hq q hf fg false (ay (ab rst rst (0:Nat)).1) (aj (ab rst rst (0:Nat)).2.1 (ByteArray.mk #[47,47]).data.toList).1).pl.length≤(100000:Nat))∧
 AU k sc us pw hk hs hn hp port pn pl hq q hf fg bare sp rst)∧
 ((aj (ab rst rst (0:Nat)).2.1 (ByteArray.mk #[47,47]).data.toList).2=false→
 True∧
 ((aj (aj (ab rst rst (0:Nat)).2.1 (ByteArray.mk #[47,47]).data.toList).1 (ByteArray.mk #[47]).data.toList).2=true→
 VS.mk [] [(0,PV.ptr (0:Nat) (0:Nat)),(2,PV.int .i64 (0:Int)),(3,PV.int .i64 (0:Int)),(6,PV.bool !decide ((0:Int)=(0:Int))),(10,PV.bool false),(16,PV.bool (decide ((ab rst rst (0:Nat)).1=(ByteArray.mk #[102,105,108,101]).data.toList))),(26,PV.undef),(28,PV.bool false),(51,PV.bool (ay (ab rst rst (0:Nat)).1)),(58,PV.bool (aj (ab rst rst (0:Nat)).2.1 (ByteArray.mk #[47,47]).data.toList).2),(61,PV.bool (aj (aj (ab rst rst (0:Nat)).2.1 (ByteArray.mk #[47,47]).data.toList).1 (ByteArray.mk #[47]).data.toList).2),(71,PV.undef),(77,PV.undef),(81,PV.undef),(87,PV.undef),(97,PV.undef)] [((0:Nat),bV (PV.raw (Go.Value.pointer none)) 1 ((ab rst rst (0:Nat)).1) us pw hk hs hn hp port false pn pl hq q hf fg false (ay (ab rst rst (0:Nat)).1) ((aj (aj (ab rst rst (0:Nat)).2.1 (ByteArray.mk #[47,47]).data.toList).1 (ByteArray.mk #[47]).data.toList).1))]=VS.mk [] [(0,PV.ptr (0:Nat) (0:Nat)),(2,PV.int .i64 (0:Int)),(3,PV.int .i64 (0:Int)),(6,PV.bool !decide ((0:Int)=(0:Int))),(10,PV.bool false),(16,PV.bool (decide ((ab rst rst (0:Nat)).1=(ByteArray.mk #[102,105,108,101]).data.toList))),(26,PV.undef),(28,PV.bool false),(51,PV.bool (ay (ab rst rst (0:Nat)).1)),(58,PV.bool (aj (ab rst rst (0:Nat)).2.1 (ByteArray.mk #[47,47]).data.toList).2),(61,PV.bool (aj (aj (ab rst rst (0:Nat)).2.1 (ByteArray.mk #[47,47]).data.toList).1 (ByteArray.mk #[47]).data.toList).2),(71,PV.undef),(77,PV.undef),(81,PV.undef),(87,PV.undef),(97,PV.undef)] [((0:Nat),bV (PV.raw (Go.Value.pointer none)) 1 ((RS.mk (ab rst rst (0:Nat)).1 us pw hk hs hn hp port false pn pl hq q hf fg false (ay (ab rst rst (0:Nat)).1) (aj (aj (ab rst rst (0:Nat)).2.1 (ByteArray.mk #[47,47]).data.toList).1 (ByteArray.mk #[47]).data.toList).1).sc) ((RS.mk (ab rst rst (0:Nat)).1 us pw hk hs hn hp port false pn pl hq q hf fg false (ay (ab rst rst (0:Nat)).1) (aj (aj (ab rst rst (0:Nat)).2.1 (ByteArray.mk #[47,47]).data.toList).1 (ByteArray.mk #[47]).data.toList).1).us) ((RS.mk (ab rst rst (0:Nat)).1 us pw hk hs hn hp port false pn pl hq q hf fg false (ay (ab rst rst (0:Nat)).1) (aj (aj (ab rst rst (0:Nat)).2.1 (ByteArray.mk #[47,47]).data.toList).1 (ByteArray.mk #[47]).data.toList).1).pw) ((RS.mk (ab rst rst (0:Nat)).1 us pw hk hs hn hp port false pn pl hq q hf fg false (ay (ab rst rst (0:Nat)).1) (aj (aj (ab rst rst (0:Nat)).2.1 (ByteArray.mk #[47,47]).data.toList).1 (ByteArray.mk #[47]).data.toList).1).hk) ((RS.mk (ab rst rst (0:Nat)).1 us pw hk hs hn hp port false pn pl hq q hf fg false (ay (ab rst rst (0:Nat)).1) (aj (aj (ab rst rst (0:Nat)).2.1 (ByteArray.mk #[47,47]).data.toList).1 (ByteArray.mk #[47]).data.toList).1).hs) ((RS.mk (ab rst rst (0:Nat)).1 us pw hk hs hn hp port false pn pl hq q hf fg false (ay (ab rst rst (0:Nat)).1) (aj (aj (ab rst rst (0:Nat)).2.1 (ByteArray.mk #[47,47]).data.toList).1 (ByteArray.mk #[47]).data.toList).1).hn) ((RS.mk (ab rst rst (0:Nat)).1 us pw hk hs hn hp port false pn pl hq q hf fg false (ay (ab rst rst (0:Nat)).1) (aj (aj (ab rst rst (0:Nat)).2.1 (ByteArray.mk #[47,47]).data.toList).1 (ByteArray.mk #[47]).data.toList).1).hp) ((RS.mk (ab rst rst (0:Nat)).1 us pw hk hs hn hp port false pn pl hq q hf fg false (ay (ab rst rst (0:Nat)).1) (aj (aj (ab rst rst (0:Nat)).2.1 (ByteArray.mk #[47,47]).data.toList).1 (ByteArray.mk #[47]).data.toList).1).port) ((RS.mk (ab rst rst (0:Nat)).1 us pw hk hs hn hp port false pn pl hq q hf fg false (ay (ab rst rst (0:Nat)).1) (aj (aj (ab rst rst (0:Nat)).2.1 (ByteArray.mk #[47,47]).data.toList).1 (ByteArray.mk #[47]).data.toList).1).opq) ((RS.mk (ab rst rst (0:Nat)).1 us pw hk hs hn hp port false pn pl hq q hf fg false (ay (ab rst rst (0:Nat)).1) (aj (aj (ab rst rst (0:Nat)).2.1 (ByteArray.mk #[47,47]).data.toList).1 (ByteArray.mk #[47]).data.toList).1).pn) ((RS.mk (ab rst rst (0:Nat)).1 us pw hk hs hn hp port false pn pl hq q hf fg false (ay (ab rst rst (0:Nat)).1) (aj (aj (ab rst rst (0:Nat)).2.1 (ByteArray.mk #[47,47]).data.toList).1 (ByteArray.mk #[47]).data.toList).1).pl) ((RS.mk (ab rst rst (0:Nat)).1 us pw hk hs hn hp port false pn pl hq q hf fg false (ay (ab rst rst (0:Nat)).1) (aj (aj (ab rst rst (0:Nat)).2.1 (ByteArray.mk #[47,47]).data.toList).1 (ByteArray.mk #[47]).data.toList).1).hq) ((RS.mk (ab rst rst (0:Nat)).1 us pw hk hs hn hp port false pn pl hq q hf fg false (ay (ab rst rst (0:Nat)).1) (aj (aj (ab rst rst (0:Nat)).2.1 (ByteArray.mk #[47,47]).data.toList).1 (ByteArray.mk #[47]).data.toList).1).q) ((RS.mk (ab rst rst (0:Nat)).1 us pw hk hs hn hp port false pn pl hq q hf fg false (ay (ab rst rst (0:Nat)).1) (aj (aj (ab rst rst (0:Nat)).2.1 (ByteArray.mk #[47,47]).data.toList).1 (ByteArray.mk #[47]).data.toList).1).hf) ((RS.mk (ab rst rst (0:Nat)).1 us pw hk hs hn hp port false pn pl hq q hf fg false (ay (ab rst rst (0:Nat)).1) (aj (aj (ab rst rst (0:Nat)).2.1 (ByteArray.mk #[47,47]).data.toList).1 (ByteArray.mk #[47]).data.toList).1).fg) ((RS.mk (ab rst rst (0:Nat)).1 us pw hk hs hn hp port false pn pl hq q hf fg false (ay (ab rst rst (0:Nat)).1) (aj (aj (ab rst rst (0:Nat)).2.1 (ByteArray.mk #[47,47]).data.toList).1 (ByteArray.mk #[47]).data.toList).1).bare) ((RS.mk (ab rst rst (0:Nat)).1 us pw hk hs hn hp port false pn pl hq q hf fg false (ay (ab rst rst (0:Nat)).1) (aj (aj (ab rst rst (0:Nat)).2.1 (ByteArray.mk #[47,47]).data.toList).1 (ByteArray.mk #[47]).data.toList).1).sp) ((RS.mk (ab rst rst (0:Nat)).1 us pw hk hs hn hp port false pn pl hq q hf fg false (ay (ab rst rst (0:Nat)).1) (aj (aj (ab rst rst (0:Nat)).2.1 (ByteArray.mk #[47,47]).data.toList).1 (ByteArray.mk #[47]).data.toList).1).rst))]∧
 ((RS.mk sc us pw hk hs hn hp port false pn pl hq q hf fg bare sp rst).ao=((RS.mk (ab rst rst (0:Nat)).1 us pw hk hs hn hp port false pn pl hq q hf fg false (ay (ab rst rst (0:Nat)).1) (aj (aj (ab rst rst (0:Nat)).2.1 (ByteArray.mk #[47,47]).data.toList).1 (ByteArray.mk #[47]).data.toList).1).path.tail,(0:Int))∧
 List.length (RS.mk (ab rst rst (0:Nat)).1 us pw hk hs hn hp port false pn pl hq q hf fg false (ay (ab rst rst (0:Nat)).1) (aj (aj (ab rst rst (0:Nat)).2.1 (ByteArray.mk #[47,47]).data.toList).1 (ByteArray.mk #[47]).data.toList).1).rst≤(300000:Nat)∧
 (RS.mk (ab rst rst (0:Nat)).1 us pw hk hs hn hp port false pn pl hq q hf fg false (ay (ab rst rst (0:Nat)).1) (aj (aj (ab rst rst (0:Nat)).2.1 (ByteArray.mk #[47,47]).data.toList).1 (ByteArray.mk #[47]).data.toList).1).pl.length≤(100000:Nat))∧
 Jh k sc us pw hk hs hn hp port pn pl hq q hf fg bare sp rst)∧
 ((aj (aj (ab rst rst (0:Nat)).2.1 (ByteArray.mk #[47,47]).data.toList).1 (ByteArray.mk #[47]).data.toList).2=false→
 (List.length (aj (aj (ab rst rst (0:Nat)).2.1 (ByteArray.mk #[47,47]).data.toList).1 (ByteArray.mk #[47]).data.toList).1).le (300000:Nat)∧
 (aa (aj (aj (ab rst rst (0:Nat)).2.1 (ByteArray.mk #[47,47]).data.toList).1 (ByteArray.mk #[47]).data.toList).1 ↑(aF (aj (aj (ab rst rst (0:Nat)).2.1 (ByteArray.mk #[47,47]).data.toList).1 (ByteArray.mk #[47]).data.toList).1)).length.le (300000:Nat)∧
 (List.length (bL (aa (aj (aj (ab rst rst (0:Nat)).2.1 (ByteArray.mk #[47,47]).data.toList).1 (ByteArray.mk #[47]).data.toList).1 ↑(aF (aj (aj (ab rst rst (0:Nat)).2.1 (ByteArray.mk #[47,47]).data.toList).1 (ByteArray.mk #[47]).data.toList).1)))).le (300000:Nat)∧
 k (PV.int .i64 (0:Int)) [bV (PV.raw (Go.Value.pointer none)) 0 ((ab rst rst (0:Nat)).1) us pw hk hs hn hp port true false ([nQ (ae (aj (aj (ab rst rst (0:Nat)).2.1 (ByteArray.mk #[47,47]).data.toList).1 (ByteArray.mk #[47]).data.toList).1 ↑(aF (aj (aj (ab rst rst (0:Nat)).2.1 (ByteArray.mk #[47,47]).data.toList).1 (ByteArray.mk #[47]).data.toList).1)) (aa (aj (aj (ab rst rst (0:Nat)).2.1 (ByteArray.mk #[47,47]).data.toList).1 (ByteArray.mk #[47]).data.toList).1 ↑(aF (aj (aj (ab rst rst (0:Nat)).2.1 (ByteArray.mk #[47,47]).data.toList).1 (ByteArray.mk #[47]).data.toList).1))]) (ee (aa (aj (aj (ab rst rst (0:Nat)).2.1 (ByteArray.mk #[47,47]).data.toList).1 (ByteArray.mk #[47]).data.toList).1 ↑(aF (aj (aj (ab rst rst (0:Nat)).2.1 (ByteArray.mk #[47,47]).data.toList).1 (ByteArray.mk #[47]).data.toList).1)) hq) (eh (ay (ab rst rst (0:Nat)).1) (aa (aj (aj (ab rst rst (0:Nat)).2.1 (ByteArray.mk #[47,47]).data.toList).1 (ByteArray.mk #[47]).data.toList).1 ↑(aF (aj (aj (ab rst rst (0:Nat)).2.1 (ByteArray.mk #[47,47]).data.toList).1 (ByteArray.mk #[47]).data.toList).1)) q) (ei (bL (aa (aj (aj (ab rst rst (0:Nat)).2.1 (ByteArray.mk #[47,47]).data.toList).1 (ByteArray.mk #[47]).data.toList).1 ↑(aF (aj (aj (ab rst rst (0:Nat)).2.1 (ByteArray.mk #[47,47]).data.toList).1 (ByteArray.mk #[47]).data.toList).1))) hf) (ej (bL (aa (aj (aj (ab rst rst (0:Nat)).2.1 (ByteArray.mk #[47,47]).data.toList).1 (ByteArray.mk #[47]).data.toList).1 ↑(aF (aj (aj (ab rst rst (0:Nat)).2.1 (ByteArray.mk #[47,47]).data.toList).1 (ByteArray.mk #[47]).data.toList).1))) fg) false (ay (ab rst rst (0:Nat)).1) (en (bL (aa (aj (aj (ab rst rst (0:Nat)).2.1 (ByteArray.mk #[47,47]).data.toList).1 (ByteArray.mk #[47]).data.toList).1 ↑(aF (aj (aj (ab rst rst (0:Nat)).2.1 (ByteArray.mk #[47,47]).data.toList).1 (ByteArray.mk #[47]).data.toList).1))))])))))∧
 (ay (ab rst rst (0:Nat)).1=!true→
 (false=false→
 false=true→
 True)∧
 (false=true→
 VS.mk [] [(0,PV.ptr (0:Nat) (0:Nat)),(2,PV.int .i64 (0:Int)),(3,PV.int .i64 (0:Int)),(6,PV.bool !decide ((0:Int)=(0:Int))),(10,PV.bool false),(16,PV.bool (decide ((ab rst rst (0:Nat)).1=(ByteArray.mk #[102,105,108,101]).data.toList))),(26,PV.undef),(28,PV.bool false),(51,PV.undef),(58,PV.undef),(61,PV.undef),(71,PV.undef),(77,PV.undef),(81,PV.undef),(87,PV.undef),(97,PV.undef)] [((0:Nat),bV (PV.raw (Go.Value.pointer none)) 1 ((ab rst rst (0:Nat)).1) us pw hk hs hn hp port false pn pl hq q hf fg false (ay (ab rst rst (0:Nat)).1) ((ab rst rst (0:Nat)).2.1))]=VS.mk [] [] []∧
 False∧
 ∀(x:RS),False→
 False)∧
 (false=false→
 (ay (ab rst rst (0:Nat)).1=true→
 (List.length (ab rst rst (0:Nat)).2.1).le (300000:Nat)∧
 VS.mk [] [(0,PV.ptr (0:Nat) (0:Nat)),(2,PV.int .i64 (0:Int)),(3,PV.int .i64 (0:Int)),(6,PV.bool !decide ((0:Int)=(0:Int))),(10,PV.bool false),(16,PV.bool (decide ((ab rst rst (0:Nat)).1=(ByteArray.mk #[102,105,108,101]).data.toList))),(26,PV.undef),(28,PV.bool false),(51,PV.bool (ay (ab rst rst (0:Nat)).1)),(58,PV.undef),(61,PV.undef),(71,PV.undef),(77,PV.undef),(81,PV.undef),(87,PV.undef),(97,PV.undef)] [((0:Nat),bV (PV.raw (Go.Value.pointer none)) 1 ((ab rst rst (0:Nat)).1) us pw hk hs hn hp port false pn pl hq q hf fg false (ay (ab rst rst (0:Nat)).1) (aC (List.length (ab rst rst (0:Nat)).2.1) (ay (ab rst rst (0:Nat)).1) (0:Int) (ab rst rst (0:Nat)).2.1))]=VS.mk [] [(0,PV.ptr (0:Nat) (0:Nat)),(2,PV.int .i64 (0:Int)),(3,PV.int .i64 (0:Int)),(6,PV.bool !decide ((0:Int)=(0:Int))),(10,PV.bool false),(16,PV.bool (decide ((ab rst rst (0:Nat)).1=(ByteArray.mk #[102,105,108,101]).data.toList))),(26,PV.undef),(28,PV.bool false),(51,PV.bool (ay (ab rst rst (0:Nat)).1)),(58,PV.undef),(61,PV.undef),(71,PV.undef),(77,PV.undef),(81,PV.undef),(87,PV.undef),(97,PV.undef)] [((0:Nat),bV (PV.raw (Go.Value.pointer none)) 1 ((RS.mk (ab rst rst (0:Nat)).1 us pw hk hs hn hp port false pn pl hq q hf fg false (ay (ab rst rst (0:Nat)).1) (aC (List.length (ab rst rst (0:Nat)).2.1) (ay (ab rst rst (0:Nat)).1) (0:Int) (ab rst rst (0:Nat)).2.1)).sc) ((RS.mk (ab rst rst (0:Nat)).1 us pw hk hs hn hp port false pn pl hq q hf fg false (ay (ab rst rst (0:Nat)).1) (aC (List.length (ab rst rst (0:Nat)).2.1) (ay (ab rst rst (0:Nat)).1) (0:Int) (ab rst rst (0:Nat)).2.1)).us) ((RS.mk (ab rst rst (0:Nat)).1 us pw hk hs hn hp port false pn pl hq q hf fg false (ay (ab rst rst (0:Nat)).1) (aC (List.length (ab rst rst (0:Nat)).2.1) (ay (ab rst rst (0:Nat)).1) (0:Int) (ab rst rst (0:Nat)).2.1)).pw) ((RS.mk (ab rst rst (0:Nat)).1 us pw hk hs hn hp port false pn pl hq q hf fg false (ay (ab rst rst (0:Nat)).1) (aC (List.length (ab rst rst (0:Nat)).2.1) (ay (ab rst rst (0:Nat)).1) (0:Int) (ab rst rst (0:Nat)).2.1)).hk) ((RS.mk (ab rst rst (0:Nat)).1 us pw hk hs hn hp port false pn pl hq q hf fg false (ay (ab rst rst (0:Nat)).1) (aC (List.length (ab rst rst (0:Nat)).2.1) (ay (ab rst rst (0:Nat)).1) (0:Int) (ab rst rst (0:Nat)).2.1)).hs) ((RS.mk (ab rst rst (0:Nat)).1 us pw hk hs hn hp port false pn pl hq q hf fg false (ay (ab rst rst (0:Nat)).1) (aC (List.length (ab rst rst (0:Nat)).2.1) (ay (ab rst rst (0:Nat)).1) (0:Int) (ab rst rst (0:Nat)).2.1)).hn) ((RS.mk (ab rst rst (0:Nat)).1 us pw hk hs hn hp port false pn pl hq q hf fg false (ay (ab rst rst (0:Nat)).1) (aC (List.length (ab rst rst (0:Nat)).2.1) (ay (ab rst rst (0:Nat)).1) (0:Int) (ab rst rst (0:Nat)).2.1)).hp) ((RS.mk (ab rst rst (0:Nat)).1 us pw hk hs hn hp port false pn pl hq q hf fg false (ay (ab rst rst (0:Nat)).1) (aC (List.length (ab rst rst (0:Nat)).2.1) (ay (ab rst rst (0:Nat)).1) (0:Int) (ab rst rst (0:Nat)).2.1)).port) ((RS.mk (ab rst rst (0:Nat)).1 us pw hk hs hn hp port false pn pl hq q hf fg false (ay (ab rst rst (0:Nat)).1) (aC (List.length (ab rst rst (0:Nat)).2.1) (ay (ab rst rst (0:Nat)).1) (0:Int) (ab rst rst (0:Nat)).2.1)).opq) ((RS.mk (ab rst rst (0:Nat)).1 us pw hk hs hn hp port false pn pl hq q hf fg false (ay (ab rst rst (0:Nat)).1) (aC (List.length (ab rst rst (0:Nat)).2.1) (ay (ab rst rst (0:Nat)).1) (0:Int) (ab rst rst (0:Nat)).2.1)).pn) ((RS.mk (ab rst rst (0:Nat)).1 us pw hk hs hn hp port false pn pl hq q hf fg false (ay (ab rst rst (0:Nat)).1) (aC (List.length (ab rst rst (0:Nat)).2.1) (ay (ab rst rst (0:Nat)).1) (0:Int) (ab rst rst (0:Nat)).2.1)).pl) ((RS.mk (ab rst rst (0:Nat)).1 us pw hk hs hn hp port false pn pl hq q hf fg false (ay (ab rst rst (0:Nat)).1) (aC (List.length (ab rst rst (0:Nat)).2.1) (ay (ab rst rst (0:Nat)).1) (0:Int) (ab rst rst (0:Nat)).2.1)).hq) ((RS.mk (ab rst rst (0:Nat)).1 us pw hk hs hn hp port false pn pl hq q hf fg false (ay (ab rst rst (0:Nat)).1) (aC (List.length (ab rst rst (0:Nat)).2.1) (ay (ab rst rst (0:Nat)).1) (0:Int) (ab rst rst (0:Nat)).2.1)).q) ((RS.mk (ab rst rst (0:Nat)).1 us pw hk hs hn hp port false pn pl hq q hf fg false (ay (ab rst rst (0:Nat)).1) (aC (List.length (ab rst rst (0:Nat)).2.1) (ay (ab rst rst (0:Nat)).1) (0:Int) (ab rst rst (0:Nat)).2.1)).hf) ((RS.mk (ab rst rst (0:Nat)).1 us pw hk hs hn hp port false pn pl hq q hf fg false (ay (ab rst rst (0:Nat)).1) (aC (List.length (ab rst rst (0:Nat)).2.1) (ay (ab rst rst (0:Nat)).1) (0:Int) (ab rst rst (0:Nat)).2.1)).fg) ((RS.mk (ab rst rst (0:Nat)).1 us pw hk hs hn hp port false pn pl hq q hf fg false (ay (ab rst rst (0:Nat)).1) (aC (List.length (ab rst rst (0:Nat)).2.1) (ay (ab rst rst (0:Nat)).1) (0:Int) (ab rst rst (0:Nat)).2.1)).bare) ((RS.mk (ab rst rst (0:Nat)).1 us pw hk hs hn hp port false pn pl hq q hf fg false (ay (ab rst rst (0:Nat)).1) (aC (List.length (ab rst rst (0:Nat)).2.1) (ay (ab rst rst (0:Nat)).1) (0:Int) (ab rst rst (0:Nat)).2.1)).sp) ((RS.mk (ab rst rst (0:Nat)).1 us pw hk hs hn hp port false pn pl hq q hf fg false (ay (ab rst rst (0:Nat)).1) (aC (List.length (ab rst rst (0:Nat)).2.1) (ay (ab rst rst (0:Nat)).1) (0:Int) (ab rst rst (0:Nat)).2.1)).rst))]∧
 ((RS.mk sc us pw hk hs hn hp port false pn pl hq q hf fg bare sp rst).ao=(RS.mk (ab rst rst (0:Nat)).1 us pw hk hs hn hp port false pn pl hq q hf fg false (ay (ab rst rst (0:Nat)).1) (aC (List.length (ab rst rst (0:Nat)).2.1) (ay (ab rst rst (0:Nat)).1) (0:Int) (ab rst rst (0:Nat)).2.1)).bz∧
 List.length (RS.mk (ab rst rst (0:Nat)).1 us pw hk hs hn hp port false pn pl hq q hf fg false (ay (ab rst rst (0:Nat)).1) (aC (List.length (ab rst rst (0:Nat)).2.1) (ay (ab rst rst (0:Nat)).1) (0:Int) (ab rst rst (0:Nat)).2.1)).rst≤(300000:Nat)∧
 (RS.mk (ab rst rst (0:Nat)).1 us pw hk hs hn hp port false pn pl hq q hf fg false (ay (ab rst rst (0:Nat)).1) (aC (List.length (ab rst rst (0:Nat)).2.1) (ay (ab rst rst (0:Nat)).1) (0:Int) (ab rst rst (0:Nat)).2.1)).pl.length≤(100000:Nat))∧
 AU k sc us pw hk hs hn hp port pn pl hq q hf fg bare sp rst)∧
 (ay (ab rst rst (0:Nat)).1=false→
 True∧
 ((aj (ab rst rst (0:Nat)).2.1 (ByteArray.mk #[47,47]).data.toList).2=true→
 VS.mk [] [(0,PV.ptr (0:Nat) (0:Nat)),(2,PV.int .i64 (0:Int)),(3,PV.int .i64 (0:Int)),(6,PV.bool !decide ((0:Int)=(0:Int))),(10,PV.bool false),(16,PV.bool (decide ((ab rst rst (0:Nat)).1=(ByteArray.mk #[102,105,108,101]).data.toList))),(26,PV.undef),(28,PV.bool false),(51,PV.bool (ay (ab rst rst (0:Nat)).1)),(58,PV.bool (aj (ab rst rst (0:Nat)).2.1 (ByteArray.mk #[47,47]).data.toList).2),(61,PV.undef),(71,PV.undef),(77,PV.undef),(81,PV.undef),(87,PV.undef),(97,PV.undef)] [((0:Nat),bV (PV.raw (Go.Value.pointer none)) 1 ((ab rst rst (0:Nat)).1) us pw hk hs hn hp port false pn pl hq q hf fg false (ay (ab rst rst (0:Nat)).1) ((aj (ab rst rst (0:Nat)).2.1 (ByteArray.mk #[47,47]).data.toList).1))]=VS.mk [] [(0,PV.ptr (0:Nat) (0:Nat)),(2,PV.int .i64 (0:Int)),(3,PV.int .i64 (0:Int)),(6,PV.bool !decide ((0:Int)=(0:Int))),(10,PV.bool false),(16,PV.bool (decide ((ab rst rst (0:Nat)).1=(ByteArray.mk #[102,105,108,101]).data.toList))),(26,PV.undef),(28,PV.bool false),(51,PV.bool (ay (ab rst rst (0:Nat)).1)),(58,PV.bool (aj (ab rst rst (0:Nat)).2.1 (ByteArray.mk #[47,47]).data.toList).2),(61,PV.undef),(71,PV.undef),(77,PV.undef),(81,PV.undef),(87,PV.undef),(97,PV.undef)] [((0:Nat),bV (PV.raw (Go.Value.pointer none)) 1 ((RS.mk (ab rst rst (0:Nat)).1 us pw hk hs hn hp port false pn pl hq q hf fg false (ay (ab rst rst (0:Nat)).1) (aj (ab rst rst (0:Nat)).2.1 (ByteArray.mk #[47,47]).data.toList).1).sc) ((RS.mk (ab rst rst (0:Nat)).1 us pw hk hs hn hp port false pn pl hq q hf fg false (ay (ab rst rst (0:Nat)).1) (aj (ab rst rst (0:Nat)).2.1 (ByteArray.mk #[47,47]).data.toList).1).us) ((RS.mk (ab rst rst (0:Nat)).1 us pw hk hs hn hp port false pn pl hq q hf fg false (ay (ab rst rst (0:Nat)).1) (aj (ab rst rst (0:Nat)).2.1 (ByteArray.mk #[47,47]).data.toList).1).pw) ((RS.mk (ab rst rst (0:Nat)).1 us pw hk hs hn hp port false pn pl hq q hf fg false (ay (ab rst rst (0:Nat)).1) (aj (ab rst rst (0:Nat)).2.1 (ByteArray.mk #[47,47]).data.toList).1).hk) ((RS.mk (ab rst rst (0:Nat)).1 us pw hk hs hn hp port false pn pl hq q hf fg false (ay (ab rst rst (0:Nat)).1) (aj (ab rst rst (0:Nat)).2.1 (ByteArray.mk #[47,47]).data.toList).1).hs) ((RS.mk (ab rst rst (0:Nat)).1 us pw hk hs hn hp port false pn pl hq q hf fg false (ay (ab rst rst (0:Nat)).1) (aj (ab rst rst (0:Nat)).2.1 (ByteArray.mk #[47,47]).data.toList).1).hn) ((RS.mk (ab rst rst (0:Nat)).1 us pw hk hs hn hp port false pn pl hq q hf fg false (ay (ab rst rst (0:Nat)).1) (aj (ab rst rst (0:Nat)).2.1 (ByteArray.mk #[47,47]).data.toList).1).hp) ((RS.mk (ab rst rst (0:Nat)).1 us pw hk hs hn hp port false pn pl hq q hf fg false (ay (ab rst rst (0:Nat)).1) (aj (ab rst rst (0:Nat)).2.1 (ByteArray.mk #[47,47]).data.toList).1).port) ((RS.mk (ab rst rst (0:Nat)).1 us pw hk hs hn hp port false pn pl hq q hf fg false (ay (ab rst rst (0:Nat)).1) (aj (ab rst rst (0:Nat)).2.1 (ByteArray.mk #[47,47]).data.toList).1).opq) ((RS.mk (ab rst rst (0:Nat)).1 us pw hk hs hn hp port false pn pl hq q hf fg false (ay (ab rst rst (0:Nat)).1) (aj (ab rst rst (0:Nat)).2.1 (ByteArray.mk #[47,47]).data.toList).1).pn) ((RS.mk (ab rst rst (0:Nat)).1 us pw hk hs hn hp port false pn pl hq q hf fg false (ay (ab rst rst (0:Nat)).1) (aj (ab rst rst (0:Nat)).2.1 (ByteArray.mk #[47,47]).data.toList).1).pl) ((RS.mk (ab rst rst (0:Nat)).1 us pw hk hs hn hp port false pn pl hq q hf fg false (ay (ab rst rst (0:Nat)).1) (aj (ab rst rst (0:Nat)).2.1 (ByteArray.mk #[47,47]).data.toList).1).hq) ((RS.mk (ab rst rst (0:Nat)).1 us pw hk hs hn hp port false pn pl hq q hf fg false (ay (ab rst rst (0:Nat)).1) (aj (ab rst rst (0:Nat)).2.1 (ByteArray.mk #[47,47]).data.toList).1).q) ((RS.mk (ab rst rst (0:Nat)).1 us pw hk hs hn hp port false pn pl hq q hf fg false (ay (ab rst rst (0:Nat)).1) (aj (ab rst rst (0:Nat)).2.1 (ByteArray.mk #[47,47]).data.toList).1).hf) ((RS.mk (ab rst rst (0:Nat)).1 us pw hk hs hn hp port false pn pl hq q hf fg false (ay (ab rst rst (0:Nat)).1) (aj (ab rst rst (0:Nat)).2.1 (ByteArray.mk #[47,47]).data.toList).1).fg) ((RS.mk (ab rst rst (0:Nat)).1 us pw hk hs hn hp port false pn pl hq q hf fg false (ay (ab rst rst (0:Nat)).1) (aj (ab rst rst (0:Nat)).2.1 (ByteArray.mk #[47,47]).data.toList).1).bare) ((RS.mk (ab rst rst (0:Nat)).1 us pw hk hs hn hp port false pn pl hq q hf fg false (ay (ab rst rst (0:Nat)).1) (aj (ab rst rst (0:Nat)).2.1 (ByteArray.mk #[47,47]).data.toList).1).sp) ((RS.mk (ab rst rst (0:Nat)).1 us pw hk hs hn hp port false pn pl hq q hf fg false (ay (ab rst rst (0:Nat)).1) (aj (ab rst rst (0:Nat)).2.1 (ByteArray.mk #[47,47]).data.toList).1).rst))]∧
 ((RS.mk sc us pw hk hs hn hp port false pn pl hq q hf fg bare sp rst).ao=(RS.mk (ab rst rst (0:Nat)).1 us pw hk hs hn hp port false pn pl hq q hf fg false (ay (ab rst rst (0:Nat)).1) (aj (ab rst rst (0:Nat)).2.1 (ByteArray.mk #[47,47]).data.toList).1).bz∧
 List.length (RS.mk (ab rst rst (0:Nat)).1 us pw hk hs hn hp port false pn pl hq q hf fg false (ay (ab rst rst (0:Nat)).1) (aj (ab rst rst (0:Nat)).2.1 (ByteArray.mk #[47,47]).data.toList).1).rst≤(300000:Nat)∧
 (RS.mk (ab rst rst (0:Nat)).1 us pw hk hs hn hp port false pn pl hq q hf fg false (ay (ab rst rst (0:Nat)).1) (aj (ab rst rst (0:Nat)).2.1 (ByteArray.mk #[47,47]).data.toList).1).pl.length≤(100000:Nat))∧
 AU k sc us pw hk hs hn hp port pn pl hq q hf fg bare sp rst)∧
 ((aj (ab rst rst (0:Nat)).2.1 (ByteArray.mk #[47,47]).data.toList).2=false→
 True∧
 ((aj (aj (ab rst rst (0:Nat)).2.1 (ByteArray.mk #[47,47]).data.toList).1 (ByteArray.mk #[47]).data.toList).2=true→
 VS.mk [] [(0,PV.ptr (0:Nat) (0:Nat)),(2,PV.int .i64 (0:Int)),(3,PV.int .i64 (0:Int)),(6,PV.bool !decide ((0:Int)=(0:Int))),(10,PV.bool false),(16,PV.bool (decide ((ab rst rst (0:Nat)).1=(ByteArray.mk #[102,105,108,101]).data.toList))),(26,PV.undef),(28,PV.bool false),(51,PV.bool (ay (ab rst rst (0:Nat)).1)),(58,PV.bool (aj (ab rst rst (0:Nat)).2.1 (ByteArray.mk #[47,47]).data.toList).2),(61,PV.bool (aj (aj (ab rst rst (0:Nat)).2.1 (ByteArray.mk #[47,47]).data.toList).1 (ByteArray.mk #[47]).data.toList).2),(71,PV.undef),(77,PV.undef),(81,PV.undef),(87,PV.undef),(97,PV.undef)] [((0:Nat),bV (PV.raw (Go.Value.pointer none)) 1 ((ab rst rst (0:Nat)).1) us pw hk hs hn hp port false pn pl hq q hf fg false (ay (ab rst rst (0:Nat)).1) ((aj (aj (ab rst rst (0:Nat)).2.1 (ByteArray.mk #[47,47]).data.toList).1 (ByteArray.mk #[47]).data.toList).1))]=VS.mk [] [(0,PV.ptr (0:Nat) (0:Nat)),(2,PV.int .i64 (0:Int)),(3,PV.int .i64 (0:Int)),(6,PV.bool !decide ((0:Int)=(0:Int))),(10,PV.bool false),(16,PV.bool (decide ((ab rst rst (0:Nat)).1=(ByteArray.mk #[102,105,108,101]).data.toList))),(26,PV.undef),(28,PV.bool false),(51,PV.bool (ay (ab rst rst (0:Nat)).1)),(58,PV.bool (aj (ab rst rst (0:Nat)).2.1 (ByteArray.mk #[47,47]).data.toList).2),(61,PV.bool (aj (aj (ab rst rst (0:Nat)).2.1 (ByteArray.mk #[47,47]).data.toList).1 (ByteArray.mk #[47]).data.toList).2),(71,PV.undef),(77,PV.undef),(81,PV.undef),(87,PV.undef),(97,PV.undef)] [((0:Nat),bV (PV.raw (Go.Value.pointer none)) 1 ((RS.mk (ab rst rst (0:Nat)).1 us pw hk hs hn hp port false pn pl hq q hf fg false (ay (ab rst rst (0:Nat)).1) (aj (aj (ab rst rst (0:Nat)).2.1 (ByteArray.mk #[47,47]).data.toList).1 (ByteArray.mk #[47]).data.toList).1).sc) ((RS.mk (ab rst rst (0:Nat)).1 us pw hk hs hn hp port false pn pl hq q hf fg false (ay (ab rst rst (0:Nat)).1) (aj (aj (ab rst rst (0:Nat)).2.1 (ByteArray.mk #[47,47]).data.toList).1 (ByteArray.mk #[47]).data.toList).1).us) ((RS.mk (ab rst rst (0:Nat)).1 us pw hk hs hn hp port false pn pl hq q hf fg false (ay (ab rst rst (0:Nat)).1) (aj (aj (ab rst rst (0:Nat)).2.1 (ByteArray.mk #[47,47]).data.toList).1 (ByteArray.mk #[47]).data.toList).1).pw) ((RS.mk (ab rst rst (0:Nat)).1 us pw hk hs hn hp port false pn pl hq q hf fg false (ay (ab rst rst (0:Nat)).1) (aj (aj (ab rst rst (0:Nat)).2.1 (ByteArray.mk #[47,47]).data.toList).1 (ByteArray.mk #[47]).data.toList).1).hk) ((RS.mk (ab rst rst (0:Nat)).1 us pw hk hs hn hp port false pn pl hq q hf fg false (ay (ab rst rst (0:Nat)).1) (aj (aj (ab rst rst (0:Nat)).2.1 (ByteArray.mk #[47,47]).data.toList).1 (ByteArray.mk #[47]).data.toList).1).hs) ((RS.mk (ab rst rst (0:Nat)).1 us pw hk hs hn hp port false pn pl hq q hf fg false (ay (ab rst rst (0:Nat)).1) (aj (aj (ab rst rst (0:Nat)).2.1 (ByteArray.mk #[47,47]).data.toList).1 (ByteArray.mk #[47]).data.toList).1).hn) ((RS.mk (ab rst rst (0:Nat)).1 us pw hk hs hn hp port false pn pl hq q hf fg false (ay (ab rst rst (0:Nat)).1) (aj (aj (ab rst rst (0:Nat)).2.1 (ByteArray.mk #[47,47]).data.toList).1 (ByteArray.mk #[47]).data.toList).1).hp) ((RS.mk (ab rst rst (0:Nat)).1 us pw hk hs hn hp port false pn pl hq q hf fg false (ay (ab rst rst (0:Nat)).1) (aj (aj (ab rst rst (0:Nat)).2.1 (ByteArray.mk #[47,47]).data.toList).1 (ByteArray.mk #[47]).data.toList).1).port) ((RS.mk (ab rst rst (0:Nat)).1 us pw hk hs hn hp port false pn pl hq q hf fg false (ay (ab rst rst (0:Nat)).1) (aj (aj (ab rst rst (0:Nat)).2.1 (ByteArray.mk #[47,47]).data.toList).1 (ByteArray.mk #[47]).data.toList).1).opq) ((RS.mk (ab rst rst (0:Nat)).1 us pw hk hs hn hp port false pn pl hq q hf fg false (ay (ab rst rst (0:Nat)).1) (aj (aj (ab rst rst (0:Nat)).2.1 (ByteArray.mk #[47,47]).data.toList).1 (ByteArray.mk #[47]).data.toList).1).pn) ((RS.mk (ab rst rst (0:Nat)).1 us pw hk hs hn hp port false pn pl hq q hf fg false (ay (ab rst rst (0:Nat)).1) (aj (aj (ab rst rst (0:Nat)).2.1 (ByteArray.mk #[47,47]).data.toList).1 (ByteArray.mk #[47]).data.toList).1).pl) ((RS.mk (ab rst rst (0:Nat)).1 us pw hk hs hn hp port false pn pl hq q hf fg false (ay (ab rst rst (0:Nat)).1) (aj (aj (ab rst rst (0:Nat)).2.1 (ByteArray.mk #[47,47]).data.toList).1 (ByteArray.mk #[47]).data.toList).1).hq) ((RS.mk (ab rst rst (0:Nat)).1 us pw hk hs hn hp port false pn pl hq q hf fg false (ay (ab rst rst (0:Nat)).1) (aj (aj (ab rst rst (0:Nat)).2.1 (ByteArray.mk #[47,47]).data.toList).1 (ByteArray.mk #[47]).data.toList).1).q) ((RS.mk (ab rst rst (0:Nat)).1 us pw hk hs hn hp port false pn pl hq q hf fg false (ay (ab rst rst (0:Nat)).1) (aj (aj (ab rst rst (0:Nat)).2.1 (ByteArray.mk #[47,47]).data.toList).1 (ByteArray.mk #[47]).data.toList).1).hf) ((RS.mk (ab rst rst (0:Nat)).1 us pw hk hs hn hp port false pn pl hq q hf fg false (ay (ab rst rst (0:Nat)).1) (aj (aj (ab rst rst (0:Nat)).2.1 (ByteArray.mk #[47,47]).data.toList).1 (ByteArray.mk #[47]).data.toList).1).fg) ((RS.mk (ab rst rst (0:Nat)).1 us pw hk hs hn hp port false pn pl hq q hf fg false (ay (ab rst rst (0:Nat)).1) (aj (aj (ab rst rst (0:Nat)).2.1 (ByteArray.mk #[47,47]).data.toList).1 (ByteArray.mk #[47]).data.toList).1).bare) ((RS.mk (ab rst rst (0:Nat)).1 us pw hk hs hn hp port false pn pl hq q hf fg false (ay (ab rst rst (0:Nat)).1) (aj (aj (ab rst rst (0:Nat)).2.1 (ByteArray.mk #[47,47]).data.toList).1 (ByteArray.mk #[47]).data.toList).1).sp) ((RS.mk (ab rst rst (0:Nat)).1 us pw hk hs hn hp port false pn pl hq q hf fg false (ay (ab rst rst (0:Nat)).1) (aj (aj (ab rst rst (0:Nat)).2.1 (ByteArray.mk #[47,47]).data.toList).1 (ByteArray.mk #[47]).data.toList).1).rst))]∧
 ((RS.mk sc us pw hk hs hn hp port false pn pl hq q hf fg bare sp rst).ao=((RS.mk (ab rst rst (0:Nat)).1 us pw hk hs hn hp port false pn pl hq q hf fg false (ay (ab rst rst (0:Nat)).1) (aj (aj (ab rst rst (0:Nat)).2.1 (ByteArray.mk #[47,47]).data.toList).1 (ByteArray.mk #[47]).data.toList).1).path.tail,(0:Int))∧
 List.length (RS.mk (ab rst rst (0:Nat)).1 us pw hk hs hn hp port false pn pl hq q hf fg false (ay (ab rst rst (0:Nat)).1) (aj (aj (ab rst rst (0:Nat)).2.1 (ByteArray.mk #[47,47]).data.toList).1 (ByteArray.mk #[47]).data.toList).1).rst≤(300000:Nat)∧
 (RS.mk (ab rst rst (0:Nat)).1 us pw hk hs hn hp port false pn pl hq q hf fg false (ay (ab rst rst (0:Nat)).1) (aj (aj (ab rst rst (0:Nat)).2.1 (ByteArray.mk #[47,47]).data.toList).1 (ByteArray.mk #[47]).data.toList).1).pl.length≤(100000:Nat))∧
 Jh k sc us pw hk hs hn hp port pn pl hq q hf fg bare sp rst)∧
 ((aj (aj (ab rst rst (0:Nat)).2.1 (ByteArray.mk #[47,47]).data.toList).1 (ByteArray.mk #[47]).data.toList).2=false→
 (List.length (aj (aj (ab rst rst (0:Nat)).2.1 (ByteArray.mk #[47,47]).data.toList).1 (ByteArray.mk #[47]).data.toList).1).le (300000:Nat)∧
 (aa (aj (aj (ab rst rst (0:Nat)).2.1 (ByteArray.mk #[47,47]).data.toList).1 (ByteArray.mk #[47]).data.toList).1 ↑(aF (aj (aj (ab rst rst (0:Nat)).2.1 (ByteArray.mk #[47,47]).data.toList).1 (ByteArray.mk #[47]).data.toList).1)).length.le (300000:Nat)∧
 (List.length (bL (aa (aj (aj (ab rst rst (0:Nat)).2.1 (ByteArray.mk #[47,47]).data.toList).1 (ByteArray.mk #[47]).data.toList).1 ↑(aF (aj (aj (ab rst rst (0:Nat)).2.1 (ByteArray.mk #[47,47]).data.toList).1 (ByteArray.mk #[47]).data.toList).1)))).le (300000:Nat)∧
 k (PV.int .i64 (0:Int)) [bV (PV.raw (Go.Value.pointer none)) 0 ((ab rst rst (0:Nat)).1) us pw hk hs hn hp port true false ([nQ (ae (aj (aj (ab rst rst (0:Nat)).2.1 (ByteArray.mk #[47,47]).data.toList).1 (ByteArray.mk #[47]).data.toList).1 ↑(aF (aj (aj (ab rst rst (0:Nat)).2.1 (ByteArray.mk #[47,47]).data.toList).1 (ByteArray.mk #[47]).data.toList).1)) (aa (aj (aj (ab rst rst (0:Nat)).2.1 (ByteArray.mk #[47,47]).data.toList).1 (ByteArray.mk #[47]).data.toList).1 ↑(aF (aj (aj (ab rst rst (0:Nat)).2.1 (ByteArray.mk #[47,47]).data.toList).1 (ByteArray.mk #[47]).data.toList).1))]) (ee (aa (aj (aj (ab rst rst (0:Nat)).2.1 (ByteArray.mk #[47,47]).data.toList).1 (ByteArray.mk #[47]).data.toList).1 ↑(aF (aj (aj (ab rst rst (0:Nat)).2.1 (ByteArray.mk #[47,47]).data.toList).1 (ByteArray.mk #[47]).data.toList).1)) hq) (eh (ay (ab rst rst (0:Nat)).1) (aa (aj (aj (ab rst rst (0:Nat)).2.1 (ByteArray.mk #[47,47]).data.toList).1 (ByteArray.mk #[47]).data.toList).1 ↑(aF (aj (aj (ab rst rst (0:Nat)).2.1 (ByteArray.mk #[47,47]).data.toList).1 (ByteArray.mk #[47]).data.toList).1)) q) (ei (bL (aa (aj (aj (ab rst rst (0:Nat)).2.1 (ByteArray.mk #[47,47]).data.toList).1 (ByteArray.mk #[47]).data.toList).1 ↑(aF (aj (aj (ab rst rst (0:Nat)).2.1 (ByteArray.mk #[47,47]).data.toList).1 (ByteArray.mk #[47]).data.toList).1))) hf) (ej (bL (aa (aj (aj (ab rst rst (0:Nat)).2.1 (ByteArray.mk #[47,47]).data.toList).1 (ByteArray.mk #[47]).data.toList).1 ↑(aF (aj (aj (ab rst rst (0:Nat)).2.1 (ByteArray.mk #[47,47]).data.toList).1 (ByteArray.mk #[47]).data.toList).1))) fg) false (ay (ab rst rst (0:Nat)).1) (en (bL (aa (aj (aj (ab rst rst (0:Nat)).2.1 (ByteArray.mk #[47,47]).data.toList).1 (ByteArray.mk #[47]).data.toList).1 ↑(aF (aj (aj (ab rst rst (0:Nat)).2.1 (ByteArray.mk #[47,47]).data.toList).1 (ByteArray.mk #[47]).data.toList).1))))]))))))∧
 (false=!false→
 ((!false)=false→
 false=true→
 True)∧
 (true=true→
 VS.mk [] [(0,PV.ptr (0:Nat) (0:Nat)),(2,PV.int .i64 (0:Int)),(3,PV.int .i64 (0:Int)),(6,PV.bool !decide ((0:Int)=(0:Int))),(10,PV.bool false),(16,PV.bool (decide ((ab rst rst (0:Nat)).1=(ByteArray.mk #[102,105,108,101]).data.toList))),(26,PV.undef),(28,PV.bool true),(51,PV.undef),(58,PV.undef),(61,PV.undef),(71,PV.undef),(77,PV.undef),(81,PV.undef),(87,PV.undef),(97,PV.undef)] [((0:Nat),bV (PV.raw (Go.Value.pointer none)) 1 ((ab rst rst (0:Nat)).1) us pw hk hs hn hp port false pn pl hq q hf fg false (ay (ab rst rst (0:Nat)).1) ((ab rst rst (0:Nat)).2.1))]=VS.mk [] [] []∧
 False∧
 ∀(x:RS),False→
 False)∧
 (true=false→
 (ay (ab rst rst (0:Nat)).1=true→
 (List.length (ab rst rst (0:Nat)).2.1).le (300000:Nat)∧
 VS.mk [] [(0,PV.ptr (0:Nat) (0:Nat)),(2,PV.int .i64 (0:Int)),(3,PV.int .i64 (0:Int)),(6,PV.bool !decide ((0:Int)=(0:Int))),(10,PV.bool false),(16,PV.bool (decide ((ab rst rst (0:Nat)).1=(ByteArray.mk #[102,105,108,101]).data.toList))),(26,PV.undef),(28,PV.bool true),(51,PV.bool (ay (ab rst rst (0:Nat)).1)),(58,PV.undef),(61,PV.undef),(71,PV.undef),(77,PV.undef),(81,PV.undef),(87,PV.undef),(97,PV.undef)] [((0:Nat),bV (PV.raw (Go.Value.pointer none)) 1 ((ab rst rst (0:Nat)).1) us pw hk hs hn hp port false pn pl hq q hf fg false (ay (ab rst rst (0:Nat)).1) (aC (List.length (ab rst rst (0:Nat)).2.1) (ay (ab rst rst (0:Nat)).1) (0:Int) (ab rst rst (0:Nat)).2.1))]=VS.mk [] [(0,PV.ptr (0:Nat) (0:Nat)),(2,PV.int .i64 (0:Int)),(3,PV.int .i64 (0:Int)),(6,PV.bool !decide ((0:Int)=(0:Int))),(10,PV.bool false),(16,PV.bool (decide ((ab rst rst (0:Nat)).1=(ByteArray.mk #[102,105,108,101]).data.toList))),(26,PV.undef),(28,PV.bool true),(51,PV.bool (ay (ab rst rst (0:Nat)).1)),(58,PV.undef),(61,PV.undef),(71,PV.undef),(77,PV.undef),(81,PV.undef),(87,PV.undef),(97,PV.undef)] [((0:Nat),bV (PV.raw (Go.Value.pointer none)) 1 ((RS.mk (ab rst rst (0:Nat)).1 us pw hk hs hn hp port false pn pl hq q hf fg false (ay (ab rst rst (0:Nat)).1) (aC (List.length (ab rst rst (0:Nat)).2.1) (ay (ab rst rst (0:Nat)).1) (0:Int) (ab rst rst (0:Nat)).2.1)).sc) ((RS.mk (ab rst rst (0:Nat)).1 us pw hk hs hn hp port false pn pl hq q hf fg false (ay (ab rst rst (0:Nat)).1) (aC (List.length (ab rst rst (0:Nat)).2.1) (ay (ab rst rst (0:Nat)).1) (0:Int) (ab rst rst (0:Nat)).2.1)).us) ((RS.mk (ab rst rst (0:Nat)).1 us pw hk hs hn hp port false pn pl hq q hf fg false (ay (ab rst rst (0:Nat)).1) (aC (List.length (ab rst rst (0:Nat)).2.1) (ay (ab rst rst (0:Nat)).1) (0:Int) (ab rst rst (0:Nat)).2.1)).pw) ((RS.mk (ab rst rst (0:Nat)).1 us pw hk hs hn hp port false pn pl hq q hf fg false (ay (ab rst rst (0:Nat)).1) (aC (List.length (ab rst rst (0:Nat)).2.1) (ay (ab rst rst (0:Nat)).1) (0:Int) (ab rst rst (0:Nat)).2.1)).hk) ((RS.mk (ab rst rst (0:Nat)).1 us pw hk hs hn hp port false pn pl hq q hf fg false (ay (ab rst rst (0:Nat)).1) (aC (List.length (ab rst rst (0:Nat)).2.1) (ay (ab rst rst (0:Nat)).1) (0:Int) (ab rst rst (0:Nat)).2.1)).hs) ((RS.mk (ab rst rst (0:Nat)).1 us pw hk hs hn hp port false pn pl hq q hf fg false (ay (ab rst rst (0:Nat)).1) (aC (List.length (ab rst rst (0:Nat)).2.1) (ay (ab rst rst (0:Nat)).1) (0:Int) (ab rst rst (0:Nat)).2.1)).hn) ((RS.mk (ab rst rst (0:Nat)).1 us pw hk hs hn hp port false pn pl hq q hf fg false (ay (ab rst rst (0:Nat)).1) (aC (List.length (ab rst rst (0:Nat)).2.1) (ay (ab rst rst (0:Nat)).1) (0:Int) (ab rst rst (0:Nat)).2.1)).hp) ((RS.mk (ab rst rst (0:Nat)).1 us pw hk hs hn hp port false pn pl hq q hf fg false (ay (ab rst rst (0:Nat)).1) (aC (List.length (ab rst rst (0:Nat)).2.1) (ay (ab rst rst (0:Nat)).1) (0:Int) (ab rst rst (0:Nat)).2.1)).port) ((RS.mk (ab rst rst (0:Nat)).1 us pw hk hs hn hp port false pn pl hq q hf fg false (ay (ab rst rst (0:Nat)).1) (aC (List.length (ab rst rst (0:Nat)).2.1) (ay (ab rst rst (0:Nat)).1) (0:Int) (ab rst rst (0:Nat)).2.1)).opq) ((RS.mk (ab rst rst (0:Nat)).1 us pw hk hs hn hp port false pn pl hq q hf fg false (ay (ab rst rst (0:Nat)).1) (aC (List.length (ab rst rst (0:Nat)).2.1) (ay (ab rst rst (0:Nat)).1) (0:Int) (ab rst rst (0:Nat)).2.1)).pn) ((RS.mk (ab rst rst (0:Nat)).1 us pw hk hs hn hp port false pn pl hq q hf fg false (ay (ab rst rst (0:Nat)).1) (aC (List.length (ab rst rst (0:Nat)).2.1) (ay (ab rst rst (0:Nat)).1) (0:Int) (ab rst rst (0:Nat)).2.1)).pl) ((RS.mk (ab rst rst (0:Nat)).1 us pw hk hs hn hp port false pn pl hq q hf fg false (ay (ab rst rst (0:Nat)).1) (aC (List.length (ab rst rst (0:Nat)).2.1) (ay (ab rst rst (0:Nat)).1) (0:Int) (ab rst rst (0:Nat)).2.1)).hq) ((RS.mk (ab rst rst (0:Nat)).1 us pw hk hs hn hp port false pn pl hq q hf fg false (ay (ab rst rst (0:Nat)).1) (aC (List.length (ab rst rst (0:Nat)).2.1) (ay (ab rst rst (0:Nat)).1) (0:Int) (ab rst rst (0:Nat)).2.1)).q) ((RS.mk (ab rst rst (0:Nat)).1 us pw hk hs hn hp port false pn pl hq q hf fg false (ay (ab rst rst (0:Nat)).1) (aC (List.length (ab rst rst (0:Nat)).2.1) (ay (ab rst rst (0:Nat)).1) (0:Int) (ab rst rst (0:Nat)).2.1)).hf) ((RS.mk (ab rst rst (0:Nat)).1 us pw hk hs hn hp port false pn pl hq q hf fg false (ay (ab rst rst (0:Nat)).1) (aC (List.length (ab rst rst (0:Nat)).2.1) (ay (ab rst rst (0:Nat)).1) (0:Int) (ab rst rst (0:Nat)).2.1)).fg) ((RS.mk (ab rst rst (0:Nat)).1 us pw hk hs hn hp port false pn pl hq q hf fg false (ay (ab rst rst (0:Nat)).1) (aC (List.length (ab rst rst (0:Nat)).2.1) (ay (ab rst rst (0:Nat)).1) (0:Int) (ab rst rst (0:Nat)).2.1)).bare) ((RS.mk (ab rst rst (0:Nat)).1 us pw hk hs hn hp port false pn pl hq q hf fg false (ay (ab rst rst (0:Nat)).1) (aC (List.length (ab rst rst (0:Nat)).2.1) (ay (ab rst rst (0:Nat)).1) (0:Int) (ab rst rst (0:Nat)).2.1)).sp) ((RS.mk (ab rst rst (0:Nat)).1 us pw hk hs hn hp port false pn pl hq q hf fg false (ay (ab rst rst (0:Nat)).1) (aC (List.length (ab rst rst (0:Nat)).2.1) (ay (ab rst rst (0:Nat)).1) (0:Int) (ab rst rst (0:Nat)).2.1)).rst))]∧
 ((RS.mk sc us pw hk hs hn hp port false pn pl hq q hf fg bare sp rst).ao=(RS.mk (ab rst rst (0:Nat)).1 us pw hk hs hn hp port false pn pl hq q hf fg false (ay (ab rst rst (0:Nat)).1) (aC (List.length (ab rst rst (0:Nat)).2.1) (ay (ab rst rst (0:Nat)).1) (0:Int) (ab rst rst (0:Nat)).2.1)).bz∧
 List.length (RS.mk (ab rst rst (0:Nat)).1 us pw hk hs hn hp port false pn pl hq q hf fg false (ay (ab rst rst (0:Nat)).1) (aC (List.length (ab rst rst (0:Nat)).2.1) (ay (ab rst rst (0:Nat)).1) (0:Int) (ab rst rst (0:Nat)).2.1)).rst≤(300000:Nat)∧
 (RS.mk (ab rst rst (0:Nat)).1 us pw hk hs hn hp port false pn pl hq q hf fg false (ay (ab rst rst (0:Nat)).1) (aC (List.length (ab rst rst (0:Nat)).2.1) (ay (ab rst rst (0:Nat)).1) (0:Int) (ab rst rst (0:Nat)).2.1)).pl.length≤(100000:Nat))∧
 AU k sc us pw hk hs hn hp port pn pl hq q hf fg bare sp rst)∧
 (ay (ab rst rst (0:Nat)).1=false→
 True∧
 ((aj (ab rst rst (0:Nat)).2.1 (ByteArray.mk #[47,47]).data.toList).2=true→
 VS.mk [] [(0,PV.ptr (0:Nat) (0:Nat)),(2,PV.int .i64 (0:Int)),(3,PV.int .i64 (0:Int)),(6,PV.bool !decide ((0:Int)=(0:Int))),(10,PV.bool false),(16,PV.bool (decide ((ab rst rst (0:Nat)).1=(ByteArray.mk #[102,105,108,101]).data.toList))),(26,PV.undef),(28,PV.bool true),(51,PV.bool (ay (ab rst rst (0:Nat)).1)),(58,PV.bool (aj (ab rst rst (0:Nat)).2.1 (ByteArray.mk #[47,47]).data.toList).2),(61,PV.undef),(71,PV.undef),(77,PV.undef),(81,PV.undef),(87,PV.undef),(97,PV.undef)] [((0:Nat),bV (PV.raw (Go.Value.pointer none)) 1 ((ab rst rst (0:Nat)).1) us pw hk hs hn hp port false pn pl hq q hf fg false (ay (ab rst rst (0:Nat)).1) ((aj (ab rst rst (0:Nat)).2.1 (ByteArray.mk #[47,47]).data.toList).1))]=VS.mk [] [(0,PV.ptr (0:Nat) (0:Nat)),(2,PV.int .i64 (0:Int)),(3,PV.int .i64 (0:Int)),(6,PV.bool !decide ((0:Int)=(0:Int))),(10,PV.bool false),(16,PV.bool (decide ((ab rst rst (0:Nat)).1=(ByteArray.mk #[102,105,108,101]).data.toList))),(26,PV.undef),(28,PV.bool true),(51,PV.bool (ay (ab rst rst (0:Nat)).1)),(58,PV.bool (aj (ab rst rst (0:Nat)).2.1 (ByteArray.mk #[47,47]).data.toList).2),(61,PV.undef),(71,PV.undef),(77,PV.undef),(81,PV.undef),(87,PV.undef),(97,PV.undef)] [((0:Nat),bV (PV.raw (Go.Value.pointer none)) 1 ((RS.mk (ab rst rst (0:Nat)).1 us pw hk hs hn hp port false pn pl hq q hf fg false (ay (ab rst rst (0:Nat)).1) (aj (ab rst rst (0:Nat)).2.1 (ByteArray.mk #[47,47]).data.toList).1).sc) ((RS.mk (ab rst rst (0:Nat)).1 us pw hk hs hn hp port false pn pl hq q hf fg false (ay (ab rst rst (0:Nat)).1) (aj (ab rst rst (0:Nat)).2.1 (ByteArray.mk #[47,47]).data.toList).1).us) ((RS.mk (ab rst rst (0:Nat)).1 us pw hk hs hn hp port false pn pl hq q hf fg false (ay (ab rst rst (0:Nat)).1) (aj (ab rst rst (0:Nat)).2.1 (ByteArray.mk #[47,47]).data.toList).1).pw) ((RS.mk (ab rst rst (0:Nat)).1 us pw hk hs hn hp port false pn pl hq q hf fg false (ay (ab rst rst (0:Nat)).1) (aj (ab rst rst (0:Nat)).2.1 (ByteArray.mk #[47,47]).data.toList).1).hk) ((RS.mk (ab rst rst (0:Nat)).1 us pw hk hs hn hp port false pn pl hq q hf fg false (ay (ab rst rst (0:Nat)).1) (aj (ab rst rst (0:Nat)).2.1 (ByteArray.mk #[47,47]).data.toList).1).hs) ((RS.mk (ab rst rst (0:Nat)).1 us pw hk hs hn hp port false pn pl hq q hf fg false (ay (ab rst rst (0:Nat)).1) (aj (ab rst rst (0:Nat)).2.1 (ByteArray.mk #[47,47]).data.toList).1).hn) ((RS.mk (ab rst rst (0:Nat)).1 us pw hk hs hn hp port false pn pl hq q hf fg false (ay (ab rst rst (0:Nat)).1) (aj (ab rst rst (0:Nat)).2.1 (ByteArray.mk #[47,47]).data.toList).1).hp) ((RS.mk (ab rst rst (0:Nat)).1 us pw hk hs hn hp port false pn pl hq q hf fg false (ay (ab rst rst (0:Nat)).1) (aj (ab rst rst (0:Nat)).2.1 (ByteArray.mk #[47,47]).data.toList).1).port) ((RS.mk (ab rst rst (0:Nat)).1 us pw hk hs hn hp port false pn pl hq q hf fg false (ay (ab rst rst (0:Nat)).1) (aj (ab rst rst (0:Nat)).2.1 (ByteArray.mk #[47,47]).data.toList).1).opq) ((RS.mk (ab rst rst (0:Nat)).1 us pw hk hs hn hp port false pn pl hq q hf fg false (ay (ab rst rst (0:Nat)).1) (aj (ab rst rst (0:Nat)).2.1 (ByteArray.mk #[47,47]).data.toList).1).pn) ((RS.mk (ab rst rst (0:Nat)).1 us pw hk hs hn hp port false pn pl hq q hf fg false (ay (ab rst rst (0:Nat)).1) (aj (ab rst rst (0:Nat)).2.1 (ByteArray.mk #[47,47]).data.toList).1).pl) ((RS.mk (ab rst rst (0:Nat)).1 us pw hk hs hn hp port false pn pl hq q hf fg false (ay (ab rst rst (0:Nat)).1) (aj (ab rst rst (0:Nat)).2.1 (ByteArray.mk #[47,47]).data.toList).1).hq) ((RS.mk (ab rst rst (0:Nat)).1 us pw hk hs hn hp port false pn pl hq q hf fg false (ay (ab rst rst (0:Nat)).1) (aj (ab rst rst (0:Nat)).2.1 (ByteArray.mk #[47,47]).data.toList).1).q) ((RS.mk (ab rst rst (0:Nat)).1 us pw hk hs hn hp port false pn pl hq q hf fg false (ay (ab rst rst (0:Nat)).1) (aj (ab rst rst (0:Nat)).2.1 (ByteArray.mk #[47,47]).data.toList).1).hf) ((RS.mk (ab rst rst (0:Nat)).1 us pw hk hs hn hp port false pn pl hq q hf fg false (ay (ab rst rst (0:Nat)).1) (aj (ab rst rst (0:Nat)).2.1 (ByteArray.mk #[47,47]).data.toList).1).fg) ((RS.mk (ab rst rst (0:Nat)).1 us pw hk hs hn hp port false pn pl hq q hf fg false (ay (ab rst rst (0:Nat)).1) (aj (ab rst rst (0:Nat)).2.1 (ByteArray.mk #[47,47]).data.toList).1).bare) ((RS.mk (ab rst rst (0:Nat)).1 us pw hk hs hn hp port false pn pl hq q hf fg false (ay (ab rst rst (0:Nat)).1) (aj (ab rst rst (0:Nat)).2.1 (ByteArray.mk #[47,47]).data.toList).1).sp) ((RS.mk (ab rst rst (0:Nat)).1 us pw hk hs hn hp port false pn pl hq q hf fg false (ay (ab rst rst (0:Nat)).1) (aj (ab rst rst (0:Nat)).2.1 (ByteArray.mk #[47,47]).data.toList).1).rst))]∧
 ((RS.mk sc us pw hk hs hn hp port false pn pl hq q hf fg bare sp rst).ao=(RS.mk (ab rst rst (0:Nat)).1 us pw hk hs hn hp port false pn pl hq q hf fg false (ay (ab rst rst (0:Nat)).1) (aj (ab rst rst (0:Nat)).2.1 (ByteArray.mk #[47,47]).data.toList).1).bz∧
 List.length (RS.mk (ab rst rst (0:Nat)).1 us pw hk hs hn hp port false pn pl hq q hf fg false (ay (ab rst rst (0:Nat)).1) (aj (ab rst rst (0:Nat)).2.1 (ByteArray.mk #[47,47]).data.toList).1).rst≤(300000:Nat)∧
 (RS.mk (ab rst rst (0:Nat)).1 us pw hk hs hn hp port false pn pl hq q hf fg false (ay (ab rst rst (0:Nat)).1) (aj (ab rst rst (0:Nat)).2.1 (ByteArray.mk #[47,47]).data.toList).1).pl.length≤(100000:Nat))∧
 AU k sc us pw hk hs hn hp port pn pl hq q hf fg bare sp rst)∧
 ((aj (ab rst rst (0:Nat)).2.1 (ByteArray.mk #[47,47]).data.toList).2=false→
 True∧
 ((aj (aj (ab rst rst (0:Nat)).2.1 (ByteArray.mk #[47,47]).data.toList).1 (ByteArray.mk #[47]).data.toList).2=true→
 VS.mk [] [(0,PV.ptr (0:Nat) (0:Nat)),(2,PV.int .i64 (0:Int)),(3,PV.int .i64 (0:Int)),(6,PV.bool !decide ((0:Int)=(0:Int))),(10,PV.bool false),(16,PV.bool (decide ((ab rst rst (0:Nat)).1=(ByteArray.mk #[102,105,108,101]).data.toList))),(26,PV.undef),(28,PV.bool true),(51,PV.bool (ay (ab rst rst (0:Nat)).1)),(58,PV.bool (aj (ab rst rst (0:Nat)).2.1 (ByteArray.mk #[47,47]).data.toList).2),(61,PV.bool (aj (aj (ab rst rst (0:Nat)).2.1 (ByteArray.mk #[47,47]).data.toList).1 (ByteArray.mk #[47]).data.toList).2),(71,PV.undef),(77,PV.undef),(81,PV.undef),(87,PV.undef),(97,PV.undef)] [((0:Nat),bV (PV.raw (Go.Value.pointer none)) 1 ((ab rst rst (0:Nat)).1) us pw hk hs hn hp port false pn pl hq q hf fg false (ay (ab rst rst (0:Nat)).1) ((aj (aj (ab rst rst (0:Nat)).2.1 (ByteArray.mk #[47,47]).data.toList).1 (ByteArray.mk #[47]).data.toList).1))]=VS.mk [] [(0,PV.ptr (0:Nat) (0:Nat)),(2,PV.int .i64 (0:Int)),(3,PV.int .i64 (0:Int)),(6,PV.bool !decide ((0:Int)=(0:Int))),(10,PV.bool false),(16,PV.bool (decide ((ab rst rst (0:Nat)).1=(ByteArray.mk #[102,105,108,101]).data.toList))),(26,PV.undef),(28,PV.bool true),(51,PV.bool (ay (ab rst rst (0:Nat)).1)),(58,PV.bool (aj (ab rst rst (0:Nat)).2.1 (ByteArray.mk #[47,47]).data.toList).2),(61,PV.bool (aj (aj (ab rst rst (0:Nat)).2.1 (ByteArray.mk #[47,47]).data.toList).1 (ByteArray.mk #[47]).data.toList).2),(71,PV.undef),(77,PV.undef),(81,PV.undef),(87,PV.undef),(97,PV.undef)] [((0:Nat),bV (PV.raw (Go.Value.pointer none)) 1 ((RS.mk (ab rst rst (0:Nat)).1 us pw hk hs hn hp port false pn pl hq q hf fg false (ay (ab rst rst (0:Nat)).1) (aj (aj (ab rst rst (0:Nat)).2.1 (ByteArray.mk #[47,47]).data.toList).1 (ByteArray.mk #[47]).data.toList).1).sc) ((RS.mk (ab rst rst (0:Nat)).1 us pw hk hs hn hp port false pn pl hq q hf fg false (ay (ab rst rst (0:Nat)).1) (aj (aj (ab rst rst (0:Nat)).2.1 (ByteArray.mk #[47,47]).data.toList).1 (ByteArray.mk #[47]).data.toList).1).us) ((RS.mk (ab rst rst (0:Nat)).1 us pw hk hs hn hp port false pn pl hq q hf fg false (ay (ab rst rst (0:Nat)).1) (aj (aj (ab rst rst (0:Nat)).2.1 (ByteArray.mk #[47,47]).data.toList).1 (ByteArray.mk #[47]).data.toList).1).pw) ((RS.mk (ab rst rst (0:Nat)).1 us pw hk hs hn hp port false pn pl hq q hf fg false (ay (ab rst rst (0:Nat)).1) (aj (aj (ab rst rst (0:Nat)).2.1 (ByteArray.mk #[47,47]).data.toList).1 (ByteArray.mk #[47]).data.toList).1).hk) ((RS.mk (ab rst rst (0:Nat)).1 us pw hk hs hn hp port false pn pl hq q hf fg false (ay (ab rst rst (0:Nat)).1) (aj (aj (ab rst rst (0:Nat)).2.1 (ByteArray.mk #[47,47]).data.toList).1 (ByteArray.mk #[47]).data.toList).1).hs) ((RS.mk (ab rst rst (0:Nat)).1 us pw hk hs hn hp port false pn pl hq q hf fg false (ay (ab rst rst (0:Nat)).1) (aj (aj (ab rst rst (0:Nat)).2.1 (ByteArray.mk #[47,47]).data.toList).1 (ByteArray.mk #[47]).data.toList).1).hn) ((RS.mk (ab rst rst (0:Nat)).1 us pw hk hs hn hp port false pn pl hq q hf fg false (ay (ab rst rst (0:Nat)).1) (aj (aj (ab rst rst (0:Nat)).2.1 (ByteArray.mk #[47,47]).data.toList).1 (ByteArray.mk #[47]).data.toList).1).hp) ((RS.mk (ab rst rst (0:Nat)).1 us pw hk hs hn hp port false pn pl hq q hf fg false (ay (ab rst rst (0:Nat)).1) (aj (aj (ab rst rst (0:Nat)).2.1 (ByteArray.mk #[47,47]).data.toList).1 (ByteArray.mk #[47]).data.toList).1).port) ((RS.mk (ab rst rst (0:Nat)).1 us pw hk hs hn hp port false pn pl hq q hf fg false (ay (ab rst rst (0:Nat)).1) (aj (aj (ab rst rst (0:Nat)).2.1 (ByteArray.mk #[47,47]).data.toList).1 (ByteArray.mk #[47]).data.toList).1).opq) ((RS.mk (ab rst rst (0:Nat)).1 us pw hk hs hn hp port false pn pl hq q hf fg false (ay (ab rst rst (0:Nat)).1) (aj (aj (ab rst rst (0:Nat)).2.1 (ByteArray.mk #[47,47]).data.toList).1 (ByteArray.mk #[47]).data.toList).1).pn) ((RS.mk (ab rst rst (0:Nat)).1 us pw hk hs hn hp port false pn pl hq q hf fg false (ay (ab rst rst (0:Nat)).1) (aj (aj (ab rst rst (0:Nat)).2.1 (ByteArray.mk #[47,47]).data.toList).1 (ByteArray.mk #[47]).data.toList).1).pl) ((RS.mk (ab rst rst (0:Nat)).1 us pw hk hs hn hp port false pn pl hq q hf fg false (ay (ab rst rst (0:Nat)).1) (aj (aj (ab rst rst (0:Nat)).2.1 (ByteArray.mk #[47,47]).data.toList).1 (ByteArray.mk #[47]).data.toList).1).hq) ((RS.mk (ab rst rst (0:Nat)).1 us pw hk hs hn hp port false pn pl hq q hf fg false (ay (ab rst rst (0:Nat)).1) (aj (aj (ab rst rst (0:Nat)).2.1 (ByteArray.mk #[47,47]).data.toList).1 (ByteArray.mk #[47]).data.toList).1).q) ((RS.mk (ab rst rst (0:Nat)).1 us pw hk hs hn hp port false pn pl hq q hf fg false (ay (ab rst rst (0:Nat)).1) (aj (aj (ab rst rst (0:Nat)).2.1 (ByteArray.mk #[47,47]).data.toList).1 (ByteArray.mk #[47]).data.toList).1).hf) ((RS.mk (ab rst rst (0:Nat)).1 us pw hk hs hn hp port false pn pl hq q hf fg false (ay (ab rst rst (0:Nat)).1) (aj (aj (ab rst rst (0:Nat)).2.1 (ByteArray.mk #[47,47]).data.toList).1 (ByteArray.mk #[47]).data.toList).1).fg) ((RS.mk (ab rst rst (0:Nat)).1 us pw hk hs hn hp port false pn pl hq q hf fg false (ay (ab rst rst (0:Nat)).1) (aj (aj (ab rst rst (0:Nat)).2.1 (ByteArray.mk #[47,47]).data.toList).1 (ByteArray.mk #[47]).data.toList).1).bare) ((RS.mk (ab rst rst (0:Nat)).1 us pw hk hs hn hp port false pn pl hq q hf fg false (ay (ab rst rst (0:Nat)).1) (aj (aj (ab rst rst (0:Nat)).2.1 (ByteArray.mk #[47,47]).data.toList).1 (ByteArray.mk #[47]).data.toList).1).sp) ((RS.mk (ab rst rst (0:Nat)).1 us pw hk hs hn hp port false pn pl hq q hf fg false (ay (ab rst rst (0:Nat)).1) (aj (aj (ab rst rst (0:Nat)).2.1 (ByteArray.mk #[47,47]).data.toList).1 (ByteArray.mk #[47]).data.toList).1).rst))]∧
 ((RS.mk sc us pw hk hs hn hp port false pn pl hq q hf fg bare sp rst).ao=((RS.mk (ab rst rst (0:Nat)).1 us pw hk hs hn hp port false pn pl hq q hf fg false (ay (ab rst rst (0:Nat)).1) (aj (aj (ab rst rst (0:Nat)).2.1 (ByteArray.mk #[47,47]).data.toList).1 (ByteArray.mk #[47]).data.toList).1).path.tail,(0:Int))∧
 List.length (RS.mk (ab rst rst (0:Nat)).1 us pw hk hs hn hp port false pn pl hq q hf fg false (ay (ab rst rst (0:Nat)).1) (aj (aj (ab rst rst (0:Nat)).2.1 (ByteArray.mk #[47,47]).data.toList).1 (ByteArray.mk #[47]).data.toList).1).rst≤(300000:Nat)∧
 (RS.mk (ab rst rst (0:Nat)).1 us pw hk hs hn hp port false pn pl hq q hf fg false (ay (ab rst rst (0:Nat)).1) (aj (aj (ab rst rst (0:Nat)).2.1 (ByteArray.mk #[47,47]).data.toList).1 (ByteArray.mk #[47]).data.toList).1).pl.length≤(100000:Nat))∧
 Jh k sc us pw hk hs hn hp port pn pl hq q hf fg bare sp rst)∧
 ((aj (aj (ab rst rst (0:Nat)).2.1 (ByteArray.mk #[47,47]).data.toList).1 (ByteArray.mk #[47]).data.toList).2=false→
 (List.length (aj (aj (ab rst rst (0:Nat)).2.1 (ByteArray.mk #[47,47]).data.toList).1 (ByteArray.mk #[47]).data.toList).1).le (300000:Nat)∧
 (aa (aj (aj (ab rst rst (0:Nat)).2.1 (ByteArray.mk #[47,47]).data.toList).1 (ByteArray.mk #[47]).data.toList).1 ↑(aF (aj (aj (ab rst rst (0:Nat)).2.1 (ByteArray.mk #[47,47]).data.toList).1 (ByteArray.mk #[47]).data.toList).1)).length.le (300000:Nat)∧
 (List.length (bL (aa (aj (aj (ab rst rst (0:Nat)).2.1 (ByteArray.mk #[47,47]).data.toList).1 (ByteArray.mk #[47]).data.toList).1 ↑(aF (aj (aj (ab rst rst (0:Nat)).2.1 (ByteArray.mk #[47,47]).data.toList).1 (ByteArray.mk #[47]).data.toList).1)))).le (300000:Nat)∧
 k (PV.int .i64 (0:Int)) [bV (PV.raw (Go.Value.pointer none)) 0 ((ab rst rst (0:Nat)).1) us pw hk hs hn hp port true false ([nQ (ae (aj (aj (ab rst rst (0:Nat)).2.1 (ByteArray.mk #[47,47]).data.toList).1 (ByteArray.mk #[47]).data.toList).1 ↑(aF (aj (aj (ab rst rst (0:Nat)).2.1 (ByteArray.mk #[47,47]).data.toList).1 (ByteArray.mk #[47]).data.toList).1)) (aa (aj (aj (ab rst rst (0:Nat)).2.1 (ByteArray.mk #[47,47]).data.toList).1 (ByteArray.mk #[47]).data.toList).1 ↑(aF (aj (aj (ab rst rst (0:Nat)).2.1 (ByteArray.mk #[47,47]).data.toList).1 (ByteArray.mk #[47]).data.toList).1))]) (ee (aa (aj (aj (ab rst rst (0:Nat)).2.1 (ByteArray.mk #[47,47]).data.toList).1 (ByteArray.mk #[47]).data.toList).1 ↑(aF (aj (aj (ab rst rst (0:Nat)).2.1 (ByteArray.mk #[47,47]).data.toList).1 (ByteArray.mk #[47]).data.toList).1)) hq) (eh (ay (ab rst rst (0:Nat)).1) (aa (aj (aj (ab rst rst (0:Nat)).2.1 (ByteArray.mk #[47,47]).data.toList).1 (ByteArray.mk #[47]).data.toList).1 ↑(aF (aj (aj (ab rst rst (0:Nat)).2.1 (ByteArray.mk #[47,47]).data.toList).1 (ByteArray.mk #[47]).data.toList).1)) q) (ei (bL (aa (aj (aj (ab rst rst (0:Nat)).2.1 (ByteArray.mk #[47,47]).data.toList).1 (ByteArray.mk #[47]).data.toList).1 ↑(aF (aj (aj (ab rst rst (0:Nat)).2.1 (ByteArray.mk #[47,47]).data.toList).1 (ByteArray.mk #[47]).data.toList).1))) hf) (ej (bL (aa (aj (aj (ab rst rst (0:Nat)).2.1 (ByteArray.mk #[47,47]).data.toList).1 (ByteArray.mk #[47]).data.toList).1 ↑(aF (aj (aj (ab rst rst (0:Nat)).2.1 (ByteArray.mk #[47,47]).data.toList).1 (ByteArray.mk #[47]).data.toList).1))) fg) false (ay (ab rst rst (0:Nat)).1) (en (bL (aa (aj (aj (ab rst rst (0:Nat)).2.1 (ByteArray.mk #[47,47]).data.toList).1 (ByteArray.mk #[47]).data.toList).1 ↑(aF (aj (aj (ab rst rst (0:Nat)).2.1 (ByteArray.mk #[47,47]).data.toList).1 (ByteArray.mk #[47]).data.toList).1))))]))))))))):=by kernel_rfl
attribute [local irreducible] Go.Vc.cD Go.Vc.bQ
theorem yp(sc us pw:Bs)(hk:Int)(hs:Bs)(hn:Int)(hp:List Int)(port:Int)(pn:Bool)(pl:List Bs)(hq:Bool)(q:Bs)(hf:Bool)(fg:Bs)(bare sp:Bool)(rst:Bs):br Tryz.prog aA 47 [.ptr 0 0] [aE 1 (.raw (.pointer none)) sc us pw hk hs hn hp port false pn pl hq q hf fg bare sp rst] (rst.length≤300000∧pl.length≤100000∧(ab rst rst 0).2.2=true) (.int .i64 (RS.mk sc us pw hk hs hn hp port false pn pl hq q hf fg bare sp rst).ao.2) [aE 0 (.raw (.pointer none)) ((RS.mk sc us pw hk hs hn hp port false pn pl hq q hf fg bare sp rst).ao.1.sc) ((RS.mk sc us pw hk hs hn hp port false pn pl hq q hf fg bare sp rst).ao.1.us) ((RS.mk sc us pw hk hs hn hp port false pn pl hq q hf fg bare sp rst).ao.1.pw) ((RS.mk sc us pw hk hs hn hp port false pn pl hq q hf fg bare sp rst).ao.1.hk) ((RS.mk sc us pw hk hs hn hp port false pn pl hq q hf fg bare sp rst).ao.1.hs) ((RS.mk sc us pw hk hs hn hp port false pn pl hq q hf fg bare sp rst).ao.1.hn) ((RS.mk sc us pw hk hs hn hp port false pn pl hq q hf fg bare sp rst).ao.1.hp) ((RS.mk sc us pw hk hs hn hp port false pn pl hq q hf fg bare sp rst).ao.1.port) ((RS.mk sc us pw hk hs hn hp port false pn pl hq q hf fg bare sp rst).ao.1.opq) ((RS.mk sc us pw hk hs hn hp port false pn pl hq q hf fg bare sp rst).ao.1.pn) ((RS.mk sc us pw hk hs hn hp port false pn pl hq q hf fg bare sp rst).ao.1.pl) ((RS.mk sc us pw hk hs hn hp port false pn pl hq q hf fg bare sp rst).ao.1.hq) ((RS.mk sc us pw hk hs hn hp port false pn pl hq q hf fg bare sp rst).ao.1.q) ((RS.mk sc us pw hk hs hn hp port false pn pl hq q hf fg bare sp rst).ao.1.hf) ((RS.mk sc us pw hk hs hn hp port false pn pl hq q hf fg bare sp rst).ao.1.fg) ((RS.mk sc us pw hk hs hn hp port false pn pl hq q hf fg bare sp rst).ao.1.bare) ((RS.mk sc us pw hk hs hn hp port false pn pl hq q hf fg bare sp rst).ao.1.sp) ((RS.mk sc us pw hk hs hn hp port false pn pl hq q hf fg bare sp rst).ao.1.rst)]:=uM (by kernel_rfl) yo (H:=yn sc us pw hk hs hn hp port pn pl hq q hf fg bare sp rst) (fuel:=1000) Tryz.func47 (by kernel_rfl) (Nat.le_of_ble_eq_true rfl) fun hpre=>(Ec sc us pw hk hs hn hp port pn pl hq q hf fg bare sp rst _).mpr (by
 obtain ⟨hp1,hp2,hp3⟩:=hpre
 have hRl:=rL rst rst 0
 have hsch:(RS.mk sc us pw hk hs hn hp port false pn pl hq q hf fg bare sp rst).gq=(RS.mk (ab rst rst 0).1 us pw hk hs hn hp port false pn pl hq q hf fg false (ay (ab rst rst 0).1) (ab rst rst 0).2.1,0):=if_pos hp3
 have bA:=Jj sc us pw hk hs hn hp port pn pl hq q hf fg bare sp rst
 have bB:=Ji sc us pw hk hs hn hp port pn pl hq q hf fg bare sp rst
 have e0:(RS.mk sc us pw hk hs hn hp port false pn pl hq q hf fg bare sp rst).ao=(if(ab rst rst 0).1=fL then(if(RS.mk (ab rst rst 0).1 us pw hk hs hn hp port false pn pl hq q hf fg false (ay (ab rst rst 0).1) (ab rst rst 0).2.1).aS.2=0 then((RS.mk (ab rst rst 0).1 us pw hk hs hn hp port false pn pl hq q hf fg false (ay (ab rst rst 0).1) (ab rst rst 0).2.1).aS.1.tail,0)else(RS.mk (ab rst rst 0).1 us pw hk hs hn hp port false pn pl hq q hf fg false (ay (ab rst rst 0).1) (ab rst rst 0).2.1).aS)else if ay (ab rst rst 0).1=true then(RS.mk (ab rst rst 0).1 us pw hk hs hn hp port false pn pl hq q hf fg false (ay (ab rst rst 0).1) (ab rst rst 0).2.1).skip.bz else if preB (ab rst rst 0).2.1 [47,47]=true then((RS.mk (ab rst rst 0).1 us pw hk hs hn hp port false pn pl hq q hf fg false (ay (ab rst rst 0).1) (ab rst rst 0).2.1).cut 2).bz else if preB (ab rst rst 0).2.1 [47]=true then(((RS.mk (ab rst rst 0).1 us pw hk hs hn hp port false pn pl hq q hf fg false (ay (ab rst rst 0).1) (ab rst rst 0).2.1).cut 1).path.tail,0)else((RS.mk (ab rst rst 0).1 us pw hk hs hn hp port false pn pl hq q hf fg false (ay (ab rst rst 0).1) (ab rst rst 0).2.1).mC.tail,0)):=by
  unfold RS.ao
  rw [hsch]
  rfl
 generalize (ab rst rst 0).1=C at *
 generalize (ab rst rst 0).2.1=R at *
 have ef:(ByteArray.mk #[102,105,108,101]).data.toList=fL:=rfl
 have e22:(ByteArray.mk #[47,47]).data.toList=([47,47]:Bs):=rfl
 have e21:(ByteArray.mk #[47]).data.toList=([47]:Bs):=rfl
 have hR:R.length≤300000:=by omega
 have hQR:=iQ R
 have dz:∀(l:Bs) (z:Int),l.length≤300000→(aa l z).length≤300000:=fun l z h=>Nat.le_trans (cQ l z) h
 have qz:∀l:Bs,l.length≤300000→(bL l).length≤300000:=fun l h=>Nat.le_trans (iQ l) h
 have c2t:preB R [47,47]=true→aj R (ByteArray.mk #[47,47]).data.toList=(aa R 2,true):=fun h=>by unfold aj;rw [e22,h];rfl
 have c2f:preB R [47,47]=false→aj R (ByteArray.mk #[47,47]).data.toList=(R,false):=fun h=>by unfold aj;rw [e22,h];rfl
 have c1t:preB R [47]=true→aj R (ByteArray.mk #[47]).data.toList=(aa R 1,true):=fun h=>by unfold aj;rw [e21,h];rfl
 have c1f:preB R [47]=false→aj R (ByteArray.mk #[47]).data.toList=(R,false):=fun h=>by unfold aj;rw [e21,h];rfl
 have hfl:=Eb (RS.mk C us pw hk hs hn hp port false pn pl hq q hf fg false (ay C) R)
 have er:=AT (RS.mk C us pw hk hs hn hp port false pn pl hq q hf fg false (ay C) R)
 refine ⟨⟨hp1,hp3⟩,fun h=>absurd h (by decide),fun _=>⟨fun h=>(by cases h),fun _=>⟨fun hC=>⟨⟨hR,hp2⟩,fun h3=>?_,fun h3=>⟨Nat.le_trans hfl hR,qz _ (Nat.le_trans hfl hR),?_⟩⟩,fun hC=>⟨fun _=>⟨fun hsp=>⟨trivial,fun _ h=>(by cases h),fun h=>(by cases h),fun _=>?_⟩,fun hsp=>⟨fun _ h=>(by cases h),fun h=>(by cases h),fun _=>?_⟩⟩,fun h=>absurd h (by decide)⟩⟩⟩⟩
 ·have h4:¬(RS.mk C us pw hk hs hn hp port false pn pl hq q hf fg false (ay C) R).aS.2=0:=by simpa using h3
  show KT (RS.mk sc us pw hk hs hn hp port false pn pl hq q hf fg bare sp rst).ao _ _
  rw [e0,if_pos (show C=fL from of_decide_eq_true hC),if_neg h4]
  exact ⟨rfl,congrArg (fun r=>[ob r]) er.symm⟩
 ·have h4:(RS.mk C us pw hk hs hn hp port false pn pl hq q hf fg false (ay C) R).aS.2=0:=by simpa using h3
  show KT (RS.mk sc us pw hk hs hn hp port false pn pl hq q hf fg bare sp rst).ao _ _
  rw [e0,if_pos (show C=fL from of_decide_eq_true hC),if_pos h4]
  refine ⟨rfl,?_⟩
  show _=[ob (RS.mk C us pw hk hs hn hp port false pn pl hq q hf fg false (ay C) R).aS.1.tail]
  rw [jo]
  have gen:∀G:RS,G={(RS.mk C us pw hk hs hn hp port false pn pl hq q hf fg false (ay C) R)with hk:=G.hk,hs:=G.hs,hn:=G.hn,hp:=G.hp,pn:=G.pn,pl:=G.pl,rst:=G.rst}→ob {(RS.mk C us pw hk hs hn hp port false pn pl hq q hf fg false (ay C) R)with hk:=G.hk,hs:=G.hs,hn:=G.hn,hp:=G.hp,pn:=G.pn,pl:=G.pl,hq:=ee G.rst hq,q:=eh (ay C) G.rst q,hf:=ei (bL G.rst) hf,fg:=ej (bL G.rst) fg,rst:=en (bL G.rst)}=ob {G with hq:=ee G.rst G.hq,q:=eh G.sp G.rst G.q,hf:=ei (bL G.rst) G.hf,fg:=ej (bL G.rst) G.fg,rst:=en (bL G.rst)}:=fun G e=>by
   have a1:G.sc=C:=(by have h:=congrArg RS.sc e;exact h)
   have a2:G.us=us:=(by have h:=congrArg RS.us e;exact h)
   have a3:G.pw=pw:=(by have h:=congrArg RS.pw e;exact h)
   have a4:G.port=port:=(by have h:=congrArg RS.port e;exact h)
   have a5:G.opq=false:=(by have h:=congrArg RS.opq e;exact h)
   have a6:G.hq=hq:=(by have h:=congrArg RS.hq e;exact h)
   have a7:G.q=q:=(by have h:=congrArg RS.q e;exact h)
   have a8:G.hf=hf:=(by have h:=congrArg RS.hf e;exact h)
   have a9:G.fg=fg:=(by have h:=congrArg RS.fg e;exact h)
   have a10:G.bare=false:=(by have h:=congrArg RS.bare e;exact h)
   have a11:G.sp=ay C:=(by have h:=congrArg RS.sp e;exact h)
   simp only [a1,a2,a3,a4,a5,a6,a7,a8,a9,a10,a11]
  exact congrArg (fun y=>[y]) (gen _ er)
 ·have hC':¬C=fL:=of_decide_eq_false hC
  refine ⟨fun h=>⟨hR,rfl,⟨?_,Nat.le_trans (rK _ _ _ _) hR,hp2⟩,bA⟩,fun h=>⟨trivial,?_⟩⟩
  ·rw [e0,if_neg hC',if_pos h];rfl
  have h':¬ay C=true:=by rw [h];decide
  cases h2:preB R [47,47]with
  |true=>
   rw [c2t h2]
   refine ⟨fun _=>⟨rfl,⟨?_,dz _ _ hR,hp2⟩,bA⟩,fun h=>(by cases h)⟩
   rw [e0,if_neg hC',if_neg h',if_pos h2];rfl
  |false=>
   rw [c2f h2]
   refine ⟨fun h=>(by cases h),fun _=>⟨trivial,?_⟩⟩
   show(_=true→_)∧(_=false→_)
   have h2':¬preB R [47,47]=true:=by rw [h2];decide
   cases h1:preB R [47]with
   |true=>
    rw [c1t h1]
    refine ⟨fun _=>⟨rfl,⟨?_,dz _ _ hR,hp2⟩,bB⟩,fun h=>(by cases h)⟩
    rw [e0,if_neg hC',if_neg h',if_neg h2',if_pos h1];rfl
   |false=>
    rw [c1f h1]
    have h1':¬preB R [47]=true:=by rw [h1];decide
    refine ⟨fun h=>(by cases h),fun _=>⟨hR,dz _ _ hR,qz _ (dz _ _ hR),?_⟩⟩
    show KT (RS.mk sc us pw hk hs hn hp port false pn pl hq q hf fg bare sp rst).ao _ _
    rw [e0,if_neg hC',if_neg h',if_neg h2',if_neg h1']
    refine ⟨rfl,?_⟩
    show _=[ob (RS.mk C us pw hk hs hn hp port false pn pl hq q hf fg false (ay C) R).mC.tail]
    rw [jo]
    rfl
 ·have hC':¬C=fL:=of_decide_eq_false hC
  refine ⟨fun h=>⟨hR,rfl,⟨?_,Nat.le_trans (rK _ _ _ _) hR,hp2⟩,bA⟩,fun h=>⟨trivial,?_⟩⟩
  ·rw [e0,if_neg hC',if_pos h];rfl
  have h':¬ay C=true:=by rw [h];decide
  cases h2:preB R [47,47]with
  |true=>
   rw [c2t h2]
   refine ⟨fun _=>⟨rfl,⟨?_,dz _ _ hR,hp2⟩,bA⟩,fun h=>(by cases h)⟩
   rw [e0,if_neg hC',if_neg h',if_pos h2];rfl
  |false=>
   rw [c2f h2]
   refine ⟨fun h=>(by cases h),fun _=>⟨trivial,?_⟩⟩
   show(_=true→_)∧(_=false→_)
   have h2':¬preB R [47,47]=true:=by rw [h2];decide
   cases h1:preB R [47]with
   |true=>
    rw [c1t h1]
    refine ⟨fun _=>⟨rfl,⟨?_,dz _ _ hR,hp2⟩,bB⟩,fun h=>(by cases h)⟩
    rw [e0,if_neg hC',if_neg h',if_neg h2',if_pos h1];rfl
   |false=>
    rw [c1f h1]
    have h1':¬preB R [47]=true:=by rw [h1];decide
    refine ⟨fun h=>(by cases h),fun _=>⟨hR,dz _ _ hR,qz _ (dz _ _ hR),?_⟩⟩
    show KT (RS.mk sc us pw hk hs hn hp port false pn pl hq q hf fg bare sp rst).ao _ _
    rw [e0,if_neg hC',if_neg h',if_neg h2',if_neg h1']
    refine ⟨rfl,?_⟩
    show _=[ob (RS.mk C us pw hk hs hn hp port false pn pl hq q hf fg false (ay C) R).mC.tail]
    rw [jo]
    rfl)
end
theorem yq(sc us pw:Bs)(hk:Int)(hs:Bs)(hn:Int)(hp:List Int)(port:Int)(pn:Bool)(pl:List Bs)(hq:Bool)(q:Bs)(hf:Bool)(fg:Bs)(bare sp:Bool)(rst:Bs):br Tryz.prog aA 47 [.ptr 0 0] [aE 1 (.raw (.pointer none)) sc us pw hk hs hn hp port false pn pl hq q hf fg bare sp rst] (rst.length≤300000∧pl.length≤100000) (.int .i64 (RS.mk sc us pw hk hs hn hp port false pn pl hq q hf fg bare sp rst).ao.2) [aE 0 (.raw (.pointer none)) ((RS.mk sc us pw hk hs hn hp port false pn pl hq q hf fg bare sp rst).ao.1.sc) ((RS.mk sc us pw hk hs hn hp port false pn pl hq q hf fg bare sp rst).ao.1.us) ((RS.mk sc us pw hk hs hn hp port false pn pl hq q hf fg bare sp rst).ao.1.pw) ((RS.mk sc us pw hk hs hn hp port false pn pl hq q hf fg bare sp rst).ao.1.hk) ((RS.mk sc us pw hk hs hn hp port false pn pl hq q hf fg bare sp rst).ao.1.hs) ((RS.mk sc us pw hk hs hn hp port false pn pl hq q hf fg bare sp rst).ao.1.hn) ((RS.mk sc us pw hk hs hn hp port false pn pl hq q hf fg bare sp rst).ao.1.hp) ((RS.mk sc us pw hk hs hn hp port false pn pl hq q hf fg bare sp rst).ao.1.port) ((RS.mk sc us pw hk hs hn hp port false pn pl hq q hf fg bare sp rst).ao.1.opq) ((RS.mk sc us pw hk hs hn hp port false pn pl hq q hf fg bare sp rst).ao.1.pn) ((RS.mk sc us pw hk hs hn hp port false pn pl hq q hf fg bare sp rst).ao.1.pl) ((RS.mk sc us pw hk hs hn hp port false pn pl hq q hf fg bare sp rst).ao.1.hq) ((RS.mk sc us pw hk hs hn hp port false pn pl hq q hf fg bare sp rst).ao.1.q) ((RS.mk sc us pw hk hs hn hp port false pn pl hq q hf fg bare sp rst).ao.1.hf) ((RS.mk sc us pw hk hs hn hp port false pn pl hq q hf fg bare sp rst).ao.1.fg) ((RS.mk sc us pw hk hs hn hp port false pn pl hq q hf fg bare sp rst).ao.1.bare) ((RS.mk sc us pw hk hs hn hp port false pn pl hq q hf fg bare sp rst).ao.1.sp) ((RS.mk sc us pw hk hs hn hp port false pn pl hq q hf fg bare sp rst).ao.1.rst)]:=fun hpre=>by
 cases hb:(ab rst rst 0).2.2 with
 |true=>exact yp sc us pw hk hs hn hp port pn pl hq q hf fg bare sp rst ⟨hpre.1,hpre.2,hb⟩
 |false=>exact yl sc us pw hk hs hn hp port pn pl hq q hf fg bare sp rst ⟨hpre.1,hb⟩
def Ed:PV→PV
 |.row true (.strs []) 0=>.row true (.strs []) 1
 |y=>y
theorem yr {G:Gh}{w:World}{y:PV}{u:Value}(h:aQ y G w u):aQ (Ed y) G w u:=by
 unfold Ed
 split
 ·rcases h with⟨h1,h2,h3⟩|⟨h1,-⟩
  ·exact .inl ⟨h1,h2,h3⟩
  ·cases h1
 ·exact h
theorem yu(y:PV):(Ed y).wid=y.wid:=by
 unfold Ed
 split<;>rfl
theorem yv(sc us pw:Bs)(hk:Int)(hs:Bs)(hn:Int)(hp:List Int)(port:Int)(hq:Bool)(q:Bs)(hf:Bool)(fg:Bs)(bare sp:Bool)(rst:Bs):br Tryz.prog aA 47 [.ptr 0 0] [aE 0 (.raw (.pointer none)) sc us pw hk hs hn hp port false true [] hq q hf fg bare sp rst] (rst.length≤300000) (.int .i64 (RS.mk sc us pw hk hs hn hp port false true ([]:List Bs) hq q hf fg bare sp rst).ao.2) [aE 0 (.raw (.pointer none)) ((RS.mk sc us pw hk hs hn hp port false true ([]:List Bs) hq q hf fg bare sp rst).ao.1.sc) ((RS.mk sc us pw hk hs hn hp port false true ([]:List Bs) hq q hf fg bare sp rst).ao.1.us) ((RS.mk sc us pw hk hs hn hp port false true ([]:List Bs) hq q hf fg bare sp rst).ao.1.pw) ((RS.mk sc us pw hk hs hn hp port false true ([]:List Bs) hq q hf fg bare sp rst).ao.1.hk) ((RS.mk sc us pw hk hs hn hp port false true ([]:List Bs) hq q hf fg bare sp rst).ao.1.hs) ((RS.mk sc us pw hk hs hn hp port false true ([]:List Bs) hq q hf fg bare sp rst).ao.1.hn) ((RS.mk sc us pw hk hs hn hp port false true ([]:List Bs) hq q hf fg bare sp rst).ao.1.hp) ((RS.mk sc us pw hk hs hn hp port false true ([]:List Bs) hq q hf fg bare sp rst).ao.1.port) ((RS.mk sc us pw hk hs hn hp port false true ([]:List Bs) hq q hf fg bare sp rst).ao.1.opq) ((RS.mk sc us pw hk hs hn hp port false true ([]:List Bs) hq q hf fg bare sp rst).ao.1.pn) ((RS.mk sc us pw hk hs hn hp port false true ([]:List Bs) hq q hf fg bare sp rst).ao.1.pl) ((RS.mk sc us pw hk hs hn hp port false true ([]:List Bs) hq q hf fg bare sp rst).ao.1.hq) ((RS.mk sc us pw hk hs hn hp port false true ([]:List Bs) hq q hf fg bare sp rst).ao.1.q) ((RS.mk sc us pw hk hs hn hp port false true ([]:List Bs) hq q hf fg bare sp rst).ao.1.hf) ((RS.mk sc us pw hk hs hn hp port false true ([]:List Bs) hq q hf fg bare sp rst).ao.1.fg) ((RS.mk sc us pw hk hs hn hp port false true ([]:List Bs) hq q hf fg bare sp rst).ao.1.bare) ((RS.mk sc us pw hk hs hn hp port false true ([]:List Bs) hq q hf fg bare sp rst).ao.1.sp) ((RS.mk sc us pw hk hs hn hp port false true ([]:List Bs) hq q hf fg bare sp rst).ao.1.rst)]:=fun hpre F w vs bs τ hF hT hw hb hτ hl hx=>
 yq sc us pw hk hs hn hp port true [] hq q hf fg bare sp rst ⟨hpre,Nat.zero_le _⟩ F w vs bs τ hF hT hw hb hτ ⟨hl.len,hl.nd,hl.bF,hl.mks,hl.inj,fun i x hx=>by
  cases i with
  |succ i=>cases hx
  |zero=>
   injection hx with hx
   subst hx
   obtain ⟨b,h1,u,e,fz,g1,g2,g3,g4,g5⟩:=hl.box 0 _ rfl
   exact ⟨b,h1,u,e,fz,g1,g2,aQ.map (f:=Ed) (fun y v _ hy=>yr hy) (fun y _=>yu y) g3,g4,g5⟩⟩ hx
theorem Ee(sc us pw:Bs)(hk:Int)(hs:Bs)(hn:Int)(hp:List Int)(port:Int)(hq:Bool)(q:Bs)(hf:Bool)(fg:Bs)(bare sp:Bool)(rst:Bs):ag Tryz.prog aA 47 [.ptr 0 0,aE 0 (.raw (.pointer none)) sc us pw hk hs hn hp port false true [] hq q hf fg bare sp rst] ⟨rst.length≤300000,.tup [.int .i64 (RS.mk sc us pw hk hs hn hp port false true ([]:List Bs) hq q hf fg bare sp rst).ao.2,aE 0 (.raw (.pointer none)) ((RS.mk sc us pw hk hs hn hp port false true ([]:List Bs) hq q hf fg bare sp rst).ao.1.sc) ((RS.mk sc us pw hk hs hn hp port false true ([]:List Bs) hq q hf fg bare sp rst).ao.1.us) ((RS.mk sc us pw hk hs hn hp port false true ([]:List Bs) hq q hf fg bare sp rst).ao.1.pw) ((RS.mk sc us pw hk hs hn hp port false true ([]:List Bs) hq q hf fg bare sp rst).ao.1.hk) ((RS.mk sc us pw hk hs hn hp port false true ([]:List Bs) hq q hf fg bare sp rst).ao.1.hs) ((RS.mk sc us pw hk hs hn hp port false true ([]:List Bs) hq q hf fg bare sp rst).ao.1.hn) ((RS.mk sc us pw hk hs hn hp port false true ([]:List Bs) hq q hf fg bare sp rst).ao.1.hp) ((RS.mk sc us pw hk hs hn hp port false true ([]:List Bs) hq q hf fg bare sp rst).ao.1.port) ((RS.mk sc us pw hk hs hn hp port false true ([]:List Bs) hq q hf fg bare sp rst).ao.1.opq) ((RS.mk sc us pw hk hs hn hp port false true ([]:List Bs) hq q hf fg bare sp rst).ao.1.pn) ((RS.mk sc us pw hk hs hn hp port false true ([]:List Bs) hq q hf fg bare sp rst).ao.1.pl) ((RS.mk sc us pw hk hs hn hp port false true ([]:List Bs) hq q hf fg bare sp rst).ao.1.hq) ((RS.mk sc us pw hk hs hn hp port false true ([]:List Bs) hq q hf fg bare sp rst).ao.1.q) ((RS.mk sc us pw hk hs hn hp port false true ([]:List Bs) hq q hf fg bare sp rst).ao.1.hf) ((RS.mk sc us pw hk hs hn hp port false true ([]:List Bs) hq q hf fg bare sp rst).ao.1.fg) ((RS.mk sc us pw hk hs hn hp port false true ([]:List Bs) hq q hf fg bare sp rst).ao.1.bare) ((RS.mk sc us pw hk hs hn hp port false true ([]:List Bs) hq q hf fg bare sp rst).ao.1.sp) ((RS.mk sc us pw hk hs hn hp port false true ([]:List Bs) hq q hf fg bare sp rst).ao.1.rst)]⟩:=ag.bd (fun h=>by have e:List.isEmpty (PV.aB PV.bD [.ptr 0 0,aE 0 (.raw (.pointer none)) sc us pw hk hs hn hp port false true [] hq q hf fg bare sp rst])=false:=(by kernel_rfl);exact Bool.noConfusion (e.symm.trans (congrArg List.isEmpty h))) (yv sc us pw hk hs hn hp port hq q hf fg bare sp rst)
def lG:List PV→Option aI:=fun xs=>match xs with
 |[.ptr 0 0,aE 0 (.raw (.pointer none)) sc us pw hk hs hn hp port false true [] hq q hf fg bare sp rst]=>some ⟨rst.length≤300000,.tup [.int .i64 (RS.mk sc us pw hk hs hn hp port false true ([]:List Bs) hq q hf fg bare sp rst).ao.2,aE 0 (.raw (.pointer none)) ((RS.mk sc us pw hk hs hn hp port false true ([]:List Bs) hq q hf fg bare sp rst).ao.1.sc) ((RS.mk sc us pw hk hs hn hp port false true ([]:List Bs) hq q hf fg bare sp rst).ao.1.us) ((RS.mk sc us pw hk hs hn hp port false true ([]:List Bs) hq q hf fg bare sp rst).ao.1.pw) ((RS.mk sc us pw hk hs hn hp port false true ([]:List Bs) hq q hf fg bare sp rst).ao.1.hk) ((RS.mk sc us pw hk hs hn hp port false true ([]:List Bs) hq q hf fg bare sp rst).ao.1.hs) ((RS.mk sc us pw hk hs hn hp port false true ([]:List Bs) hq q hf fg bare sp rst).ao.1.hn) ((RS.mk sc us pw hk hs hn hp port false true ([]:List Bs) hq q hf fg bare sp rst).ao.1.hp) ((RS.mk sc us pw hk hs hn hp port false true ([]:List Bs) hq q hf fg bare sp rst).ao.1.port) ((RS.mk sc us pw hk hs hn hp port false true ([]:List Bs) hq q hf fg bare sp rst).ao.1.opq) ((RS.mk sc us pw hk hs hn hp port false true ([]:List Bs) hq q hf fg bare sp rst).ao.1.pn) ((RS.mk sc us pw hk hs hn hp port false true ([]:List Bs) hq q hf fg bare sp rst).ao.1.pl) ((RS.mk sc us pw hk hs hn hp port false true ([]:List Bs) hq q hf fg bare sp rst).ao.1.hq) ((RS.mk sc us pw hk hs hn hp port false true ([]:List Bs) hq q hf fg bare sp rst).ao.1.q) ((RS.mk sc us pw hk hs hn hp port false true ([]:List Bs) hq q hf fg bare sp rst).ao.1.hf) ((RS.mk sc us pw hk hs hn hp port false true ([]:List Bs) hq q hf fg bare sp rst).ao.1.fg) ((RS.mk sc us pw hk hs hn hp port false true ([]:List Bs) hq q hf fg bare sp rst).ao.1.bare) ((RS.mk sc us pw hk hs hn hp port false true ([]:List Bs) hq q hf fg bare sp rst).ao.1.sp) ((RS.mk sc us pw hk hs hn hp port false true ([]:List Bs) hq q hf fg bare sp rst).ao.1.rst)]⟩
 |_=>none
theorem sA:∀xs c,lG xs=some c→ag Tryz.prog aA 47 xs c:=fun xs c h=>by
 unfold lG at h
 split at h
 ·injection h with h;subst h;exact Ee _ _ _ _ _ _ _ _ _ _ _ _ _ _ _
 ·cases h
section
theorem od(l:Bs):(an l).length≤4*l.length:=by
 have h1:=qQ l
 have h2:(dk (bj l)).length≤(bj l).length:=(List.dropWhile_sublist _).length_le
 have h3:(cr (dk (bj l))).length≤(dk (bj l)).length:=by
  unfold cr
  rw [List.length_reverse]
  exact Nat.le_trans (List.dropWhile_sublist _).length_le (by rw [List.length_reverse];exact Nat.le_refl _)
 have h4:(an l).length≤(cr (dk (bj l))).length:=List.length_filter_le _ _
 omega
def Ce:cq:=bR [(46,ks),(47,lG)]
def Cf(l:Bs):ba:=fun i=>none
theorem AV:cS Tryz.prog aA Ce:=ai mE (ai sA (ax))
theorem G5(l:Bs)(k:PV→Prop):cD Tryz.prog Ce aA (Cf l) 1000 Tryz.f30 [.str l,.raw (.pointer none)] k=(
 (decide ((1048576:Int)<al l)=true→
 k
 (PV.tup
 [bG (0:Nat) [] [] [] (0:Int) [] (0:Int) (List.replicate (8:Nat) (0:Int)) (0:Int) false true [] false [] false [],
 PV.int .i64 (6:Int)]))∧
 (decide ((1048576:Int)<al l)=false→
 (List.length l).le (60000:Nat)∧
 (List.length (an l)).le (300000:Nat)∧
 ((!decide
 ((RS.mk [] [] [] (0:Int) [] (0:Int) (List.replicate (8:Nat) (0:Int)) (-1:Int) false true []
 false [] false [] false false (an l)).ao.2=
 (0:Int)))=
 true→
 k
 (PV.tup
 [bG (0:Nat) [] [] [] (0:Int) [] (0:Int) (List.replicate (8:Nat) (0:Int)) (0:Int) false true [] false [] false [],
 PV.int .i64
 (RS.mk [] [] [] (0:Int) [] (0:Int) (List.replicate (8:Nat) (0:Int)) (-1:Int) false true []
 false [] false [] false false (an l)).ao.2]))∧
 ((!decide
 ((RS.mk [] [] [] (0:Int) [] (0:Int) (List.replicate (8:Nat) (0:Int)) (-1:Int) false true []
 false [] false [] false false (an l)).ao.2=
 (0:Int)))=
 false→
 k
 (PV.tup
 [bG (0:Nat) (RS.mk [] [] [] (0:Int) [] (0:Int) (List.replicate (8:Nat) (0:Int)) (-1:Int) false true []
 false [] false [] false false (an l)).ao.1.sc (RS.mk [] [] [] (0:Int) [] (0:Int) (List.replicate (8:Nat) (0:Int)) (-1:Int) false true []
 false [] false [] false false (an l)).ao.1.us (RS.mk [] [] [] (0:Int) [] (0:Int) (List.replicate (8:Nat) (0:Int)) (-1:Int) false true []
 false [] false [] false false (an l)).ao.1.pw (RS.mk [] [] [] (0:Int) [] (0:Int) (List.replicate (8:Nat) (0:Int)) (-1:Int) false
 true [] false [] false [] false false (an l)).ao.1.hk (RS.mk [] [] [] (0:Int) [] (0:Int) (List.replicate (8:Nat) (0:Int)) (-1:Int) false
 true [] false [] false [] false false (an l)).ao.1.hs (RS.mk [] [] [] (0:Int) [] (0:Int) (List.replicate (8:Nat) (0:Int)) (-1:Int) false
 true [] false [] false [] false false (an l)).ao.1.hn (RS.mk [] [] [] (0:Int) [] (0:Int) (List.replicate (8:Nat) (0:Int)) (-1:Int) false
 true [] false [] false [] false false (an l)).ao.1.hp (RS.mk [] [] [] (0:Int) [] (0:Int) (List.replicate (8:Nat) (0:Int)) (-1:Int) false true []
 false [] false [] false false (an l)).ao.1.port (RS.mk [] [] [] (0:Int) [] (0:Int) (List.replicate (8:Nat) (0:Int)) (-1:Int) false true []
 false [] false [] false false (an l)).ao.1.opq (RS.mk [] [] [] (0:Int) [] (0:Int) (List.replicate (8:Nat) (0:Int)) (-1:Int) false true []
 false [] false [] false false (an l)).ao.1.pn (RS.mk [] [] [] (0:Int) [] (0:Int) (List.replicate (8:Nat) (0:Int)) (-1:Int) false true
 [] false [] false [] false false (an l)).ao.1.pl (RS.mk [] [] [] (0:Int) [] (0:Int) (List.replicate (8:Nat) (0:Int)) (-1:Int) false true []
 false [] false [] false false (an l)).ao.1.hq (RS.mk [] [] [] (0:Int) [] (0:Int) (List.replicate (8:Nat) (0:Int)) (-1:Int) false true []
 false [] false [] false false (an l)).ao.1.q (RS.mk [] [] [] (0:Int) [] (0:Int) (List.replicate (8:Nat) (0:Int)) (-1:Int) false true []
 false [] false [] false false (an l)).ao.1.hf (RS.mk [] [] [] (0:Int) [] (0:Int) (List.replicate (8:Nat) (0:Int)) (-1:Int) false true []
 false [] false [] false false (an l)).ao.1.fg,
 PV.int .i64 (0:Int)])))):=by kernel_rfl
attribute [local irreducible] Go.Vc.cD
theorem G6(l:Bs):ag Tryz.prog aA 30 [.str l,.raw (.pointer none)] ⟨l.length≤60000,.tup [bG 0 ((bM l).1).sc ((bM l).1).us ((bM l).1).pw ((bM l).1).hk ((bM l).1).hs ((bM l).1).hn ((bM l).1).hp ((bM l).1).port ((bM l).1).opq ((bM l).1).pn ((bM l).1).pl ((bM l).1).hq ((bM l).1).q ((bM l).1).hf ((bM l).1).fg,.int .i64 (bM l).2]⟩:=b5 (by kernel_rfl) AV (H:=Cf l) (fuel:=1000) Tryz.func30 (by kernel_rfl) fun hpre=>(G5 l _).mpr (by
 have hs:=od l
 refine ⟨fun h=>absurd (of_decide_eq_true h) (by unfold al;omega),fun _=>⟨show l.length≤60000 from hpre,show(an l).length≤300000 by omega,fun h=>?_,fun h=>?_⟩⟩
 ·have h2:(!decide ((RS.init (an l)).ao.2=0))=true:=h
  have h':¬(RS.init (an l)).ao.2=0:=fun e=>by rw [decide_eq_true e]at h2;cases h2
  have e:bM l=(LB,(RS.init (an l)).ao.2):=if_neg h'
  rw [e];rfl
 ·have h2:(!decide ((RS.init (an l)).ao.2=0))=false:=h
  have h':(RS.init (an l)).ao.2=0:=Classical.byContradiction fun e=>by rw [decide_eq_false e]at h2;cases h2
  have e:bM l=(RS.init (an l)).ao:=if_pos h'
  rw [e,h'];rfl)
def oe:List PV→Option aI:=fun xs=>match xs with
 |[.str l,.raw (.pointer none)]=>some ⟨l.length≤60000,.tup [bG 0 ((bM l).1).sc ((bM l).1).us ((bM l).1).pw ((bM l).1).hk ((bM l).1).hs ((bM l).1).hn ((bM l).1).hp ((bM l).1).port ((bM l).1).opq ((bM l).1).pn ((bM l).1).pl ((bM l).1).hq ((bM l).1).q ((bM l).1).hf ((bM l).1).fg,.int .i64 (bM l).2]⟩
 |_=>none
theorem vU:∀xs c,oe xs=some c→ag Tryz.prog aA 30 xs c:=fun xs c h=>by
 unfold oe at h
 split at h
 ·injection h with h;subst h;exact G6 _
 ·cases h
end
section
def yw:cq:=bR [(30,oe)]
def yx(l:Bs):ba:=fun i=>none
theorem yy:cS Tryz.prog aA yw:=ai vU (ax)
theorem Ef(l:Bs)(k:PV→Prop):cD Tryz.prog yw aA (yx l) 1000 Tryz.f19 [.str l] k=(
 (List.length l).le (60000:Nat)∧
 k
 (PV.tup
 [bG (0:Nat) (bM l).1.sc (bM l).1.us (bM l).1.pw (bM l).1.hk (bM l).1.hs (bM l).1.hn (bM l).1.hp (bM l).1.port (bM l).1.opq (bM l).1.pn (bM l).1.pl (bM l).1.hq (bM l).1.q (bM l).1.hf (bM l).1.fg,
 PV.int .i64 (bM l).2])):=by kernel_rfl
attribute [local irreducible] Go.Vc.cD
theorem Eg(l:Bs):ag Tryz.prog aA 19 [.str l] ⟨l.length≤60000,.tup [bG 0 ((bM l).1).sc ((bM l).1).us ((bM l).1).pw ((bM l).1).hk ((bM l).1).hs ((bM l).1).hn ((bM l).1).hp ((bM l).1).port ((bM l).1).opq ((bM l).1).pn ((bM l).1).pl ((bM l).1).hq ((bM l).1).q ((bM l).1).hf ((bM l).1).fg,.int .i64 (bM l).2]⟩:=b5 (by kernel_rfl) yy (H:=yx l) (fuel:=1000) Tryz.func19 (by kernel_rfl) fun hpre=>(Ef l _).mpr (by
 exact ⟨hpre,rfl⟩)
end
section
def yz:cq:=bR []
def yA(nl:Bool)(a:List Bs)(nm:Bool)(b:List Bs):ba:=fun i=>bif Nat.beq i 4 then some ⟨(Int),(fun s x=>(((s.put 5 (.int .i64 x)).put 14 .undef).put 25 .undef)),(fun s=>s.int 5),(fun s x=>let i:=x;0≤i∧i≤a.length∧a.take i.toNat=b.take i.toNat),(fun s x=>let i:=x;((a.length:Int)-i).toNat),[14,25]⟩else none
theorem yB:cS Tryz.prog aA yz:=ax
theorem Eh(nl:Bool)(a:List Bs)(nm:Bool)(b:List Bs)(k:PV→Prop):cD Tryz.prog yz aA (yA nl a nm b) 1000 Tryz.f32 [.row nl (.strs a) 0,.row nm (.strs b) 0] k=(
 ((!decide (Int.ofNat a.length=Int.ofNat b.length))=true→k (PV.bool false))∧
 ((!decide (Int.ofNat a.length=Int.ofNat b.length))=false→
 VS.mk []
 [(0,PV.row nl (ar.strs a) (0:Nat)),(1,PV.row nm (ar.strs b) (0:Nat)),
 (4,PV.bool false),(5,PV.int .i64 (0:Int)),
 (10,PV.bool !decide (Int.ofNat a.length=Int.ofNat b.length)),((14:Nat),PV.undef),((25:Nat),PV.undef)]
 []=
 VS.mk []
 [(0,PV.row nl (ar.strs a) (0:Nat)),(1,PV.row nm (ar.strs b) (0:Nat)),
 (4,PV.bool false),((5:Nat),PV.int .i64 (0:Int)),
 (10,PV.bool !decide (Int.ofNat a.length=Int.ofNat b.length)),((14:Nat),PV.undef),((25:Nat),PV.undef)]
 []∧
 ((0:Int)≤(0:Int)∧(0:Int)≤↑a.length∧List.take (Int.toNat (0:Int)) a=List.take (Int.toNat (0:Int)) b)∧
 ∀(x:Int),
 (0:Int)≤x∧x≤↑a.length∧List.take x.toNat a=List.take x.toNat b→
 (decide (x<Int.ofNat a.length)=true→
 within x (Int.ofNat a.length)∧
 within x (Int.ofNat b.length)∧
 ((!decide (gY a x=gY b x))=true→k (PV.bool false))∧
 ((!decide (gY a x=gY b x))=false→
 aG (x+(1:Int))∧
 rR (VS.mk []
 [(0,PV.row nl (ar.strs a) (0:Nat)),(1,PV.row nm (ar.strs b) (0:Nat)),
 (4,PV.bool false),((5:Nat),PV.int .i64 (x+(1:Int))),
 (10,PV.bool !decide (Int.ofNat a.length=Int.ofNat b.length)),((14:Nat),PV.undef),
 ((25:Nat),PV.undef)]
 [])∧
 ((0:Int)≤x+(1:Int)∧x+(1:Int)≤↑a.length∧List.take (x+(1:Int)).toNat a=List.take (x+(1:Int)).toNat b)∧
 (↑a.length-(x+(1:Int))).toNat<(↑a.length-x).toNat))∧
 (decide (x<Int.ofNat a.length)=false→k (PV.bool true)))):=by kernel_rfl
attribute [local irreducible] Go.Vc.cD
theorem Ei(nl:Bool)(a:List Bs)(nm:Bool)(b:List Bs):ag Tryz.prog aA 32 [.row nl (.strs a) 0,.row nm (.strs b) 0] ⟨a.length≤1000000,.bool (decide (a=b))⟩:=b5 (by kernel_rfl) yB (H:=yA nl a nm b) (fuel:=1000) Tryz.func32 (by kernel_rfl) fun hpre=>(Eh nl a nm b _).mpr (by
 refine ⟨fun h=>?_,fun h=>⟨rfl,⟨by omega,by omega,rfl⟩,fun x ⟨h0,h1,h2⟩=>⟨fun g=>?_,fun g=>?_⟩⟩⟩
 ·rw [decide_eq_false]
  intro e;rw [e]at h;simp at h
 ·have hl:a.length=b.length:=by
   cases e:decide (Int.ofNat a.length=Int.ofNat b.length)with
   |true=>exact Int.ofNat.inj (of_decide_eq_true e)
   |false=>rw [e]at h;cases h
  have hlt:x<a.length:=of_decide_eq_true g
  have ea:a.take (x+1).toNat=a.take x.toNat++[gY a x]:=by
   rw [show(x+1).toNat=x.toNat+1 by omega,List.take_succ_eq_append_getElem (by omega)]
   unfold gY;rw [List.getD_eq_getElem?_getD,List.getElem?_eq_getElem (by omega)];rfl
  have eb:b.take (x+1).toNat=b.take x.toNat++[gY b x]:=by
   rw [show(x+1).toNat=x.toNat+1 by omega,List.take_succ_eq_append_getElem (by omega)]
   unfold gY;rw [List.getD_eq_getElem?_getD,List.getElem?_eq_getElem (by omega)];rfl
  refine ⟨⟨h0,hlt⟩,⟨h0,show x<(b.length:Int) by omega⟩,fun g2=>?_,fun g2=>⟨by unfold aG;omega,rfl,⟨by omega,by omega,?_⟩,by omega⟩⟩
  ·rw [decide_eq_false]
   intro e;subst e;simp at g2
  ·have e:gY a x=gY b x:=by
    cases e:decide (gY a x=gY b x)with
    |true=>exact of_decide_eq_true e
    |false=>rw [e]at g2;cases g2
   rw [ea,eb,h2,e]
 ·have hl:a.length=b.length:=by
   cases e:decide (Int.ofNat a.length=Int.ofNat b.length)with
   |true=>exact Int.ofNat.inj (of_decide_eq_true e)
   |false=>rw [e]at h;cases h
  have hge:¬x<a.length:=of_decide_eq_false g
  rw [List.take_of_length_le (by omega),List.take_of_length_le (by omega)]at h2
  rw [decide_eq_true h2])
def lH:List PV→Option aI:=fun xs=>match xs with
 |[.row nl (.strs a) 0,.row nm (.strs b) 0]=>some ⟨a.length≤1000000,.bool (decide (a=b))⟩
 |_=>none
theorem sB:∀xs c,lH xs=some c→ag Tryz.prog aA 32 xs c:=fun xs c h=>by
 unfold lH at h
 split at h
 ·injection h with h;subst h;exact Ei _ _ _ _
 ·cases h
end
section
def rM(a b:RS):Prop:=a.sc=b.sc∧a.us=b.us∧a.pw=b.pw∧a.hk=b.hk∧a.hs=b.hs∧a.hn=b.hn∧a.hp=b.hp∧a.port=b.port∧a.opq=b.opq∧a.pl=b.pl∧a.hq=b.hq∧a.q=b.q∧a.hf=b.hf∧a.fg=b.fg
instance (a b:RS):Decidable (rM a b):=by unfold rM;infer_instance
def Cg:cq:=bR [(32,lH)]
def Ch(asc aus apw:Bs)(ahk:Int)(ahs:Bs)(ahn:Int)(ahp:List Int)(aport:Int)(aopq apn:Bool)(apl:List Bs)(ahq:Bool)(aq:Bs)(ahf:Bool)(afg:Bs)(bsc bus bpw:Bs)(bhk:Int)(bhs:Bs)(bhn:Int)(bhp:List Int)(bport:Int)(bopq bpn:Bool)(bpl:List Bs)(bhq:Bool)(bq:Bs)(bhf:Bool)(bfg:Bs):ba:=fun i=>none
theorem AW:cS Tryz.prog aA Cg:=ai sB (ax)
theorem G7(asc aus apw:Bs)(ahk:Int)(ahs:Bs)(ahn:Int)(ahp:List Int)(aport:Int)(aopq apn:Bool)(apl:List Bs)(ahq:Bool)(aq:Bs)(ahf:Bool)(afg:Bs)(bsc bus bpw:Bs)(bhk:Int)(bhs:Bs)(bhn:Int)(bhp:List Int)(bport:Int)(bopq bpn:Bool)(bpl:List Bs)(bhq:Bool)(bq:Bs)(bhf:Bool)(bfg:Bs)(k:PV→Prop):cD Tryz.prog Cg aA (Ch asc aus apw ahk ahs ahn ahp aport aopq apn apl ahq aq ahf afg bsc bus bpw bhk bhs bhn bhp bport bopq bpn bpl bhq bq bhf bfg) 1000 Tryz.f22 [bG 0 asc aus apw ahk ahs ahn ahp aport aopq apn apl ahq aq ahf afg,bG 0 bsc bus bpw bhk bhs bhn bhp bport bopq bpn bpl bhq bq bhf bfg] k=(
 ((bif
 bif
 bif bif bif decide (asc=bsc)then decide (aus=bus)else false then decide (apw=bpw)else false then
 Bool.rec false (decide (ahs=bhs)&&(decide (ahn=bhn)&&(decide (ahp=bhp)&&true))) (decide (ahk=bhk))
 else false then
 decide (aport=bport)
 else false then
 decide (aopq=bopq)
 else false)=
 true→
 apl.length.le (1000000:Nat))∧
 k
 (PV.bool
 (bif
 bif
 bif
 bif
 bif
 bif
 bif
 bif bif bif decide (asc=bsc)then decide (aus=bus)else false then decide (apw=bpw)else false then
 Bool.rec false (decide (ahs=bhs)&&(decide (ahn=bhn)&&(decide (ahp=bhp)&&true))) (decide (ahk=bhk))
 else false then
 decide (aport=bport)
 else false then
 decide (aopq=bopq)
 else false then
 decide (apl=bpl)
 else false then
 decide (ahq=bhq)
 else false then
 decide (aq=bq)
 else false then
 decide (ahf=bhf)
 else false then
 decide (afg=bfg)
 else false))):=by kernel_rfl
attribute [local irreducible] Go.Vc.cD
theorem G8(asc aus apw:Bs)(ahk:Int)(ahs:Bs)(ahn:Int)(ahp:List Int)(aport:Int)(aopq apn:Bool)(apl:List Bs)(ahq:Bool)(aq:Bs)(ahf:Bool)(afg:Bs)(bsc bus bpw:Bs)(bhk:Int)(bhs:Bs)(bhn:Int)(bhp:List Int)(bport:Int)(bopq bpn:Bool)(bpl:List Bs)(bhq:Bool)(bq:Bs)(bhf:Bool)(bfg:Bs):ag Tryz.prog aA 22 [bG 0 asc aus apw ahk ahs ahn ahp aport aopq apn apl ahq aq ahf afg,bG 0 bsc bus bpw bhk bhs bhn bhp bport bopq bpn bpl bhq bq bhf bfg] ⟨apl.length≤1000000,.bool (decide (rM (RS.mk asc aus apw ahk ahs ahn ahp aport aopq apn apl ahq aq ahf afg false false []) (RS.mk bsc bus bpw bhk bhs bhn bhp bport bopq bpn bpl bhq bq bhf bfg false false [])))⟩:=b5 (by kernel_rfl) AW (H:=Ch asc aus apw ahk ahs ahn ahp aport aopq apn apl ahq aq ahf afg bsc bus bpw bhk bhs bhn bhp bport bopq bpn bpl bhq bq bhf bfg) (fuel:=1000) Tryz.func22 (by kernel_rfl) fun hpre=>(G7 asc aus apw ahk ahs ahn ahp aport aopq apn apl ahq aq ahf afg bsc bus bpw bhk bhs bhn bhp bport bopq bpn bpl bhq bq bhf bfg _).mpr (by
 have p1:=hpre
 have recE:∀x y:Bool,Bool.rec false y x=(x&&y):=fun x y=>by cases x<;>rfl
 refine ⟨fun _=>p1,?_⟩
 refine congrArg PV.bool ?_
 rw [Bool.eq_iff_iff]
 simp only [recE,sb,Bool.and_eq_true,decide_eq_true_eq,and_true,and_assoc]
 exact Iff.rfl)
def og:List PV→Option aI:=fun xs=>match xs with
 |[bG 0 asc aus apw ahk ahs ahn ahp aport aopq apn apl ahq aq ahf afg,bG 0 bsc bus bpw bhk bhs bhn bhp bport bopq bpn bpl bhq bq bhf bfg]=>some ⟨apl.length≤1000000,.bool (decide (rM (RS.mk asc aus apw ahk ahs ahn ahp aport aopq apn apl ahq aq ahf afg false false []) (RS.mk bsc bus bpw bhk bhs bhn bhp bport bopq bpn bpl bhq bq bhf bfg false false [])))⟩
 |_=>none
theorem vV:∀xs c,og xs=some c→ag Tryz.prog aA 22 xs c:=fun xs c h=>by
 unfold og at h
 split at h
 ·injection h with h;subst h;exact G8 _ _ _ _ _ _ _ _ _ _ _ _ _ _ _ _ _ _ _ _ _ _ _ _ _ _ _ _ _ _
 ·cases h
end
theorem AX {l:Bs}(h:∀b,l.head?=some b→32<b.toNat):dk l=l:=by
 unfold dk
 cases l with
 |nil=>rfl
 |cons b t=>
  have:=h b rfl
  rw [List.dropWhile_cons_of_neg (by unfold mD;rw [decide_eq_true_iff];omega)]
theorem KY {l:Bs}(h:∀b∈l,32≤b.toNat):l.filter (fun b=>!gN b)=l:=by
 rw [List.filter_eq_self]
 intro b hb
 have:=h b hb
 unfold gN
 rw [Bool.not_eq_true',decide_eq_false_iff_not]
 rintro (rfl|rfl|rfl)<;>revert this<;>decide
def RS.ext(r:RS)(g:Bs):RS:={r with rst:=r.rst++35::g}
def RS.fin(r:RS)(g:Bs):RS:={r with hf:=true,fg:=bw 1 g,rst:=g}
theorem vW(r:RS)(s l:Bs):({r with rst:=l}:RS).aX s=({(r.aX s).1 with rst:=l},(r.aX s).2):=by
 unfold RS.aX
 dsimp only
 by_cases h1:bh s=0∨s=[]∧r.sp=true
 ·rw [if_pos h1,if_pos h1]
 ·rw [if_neg h1,if_neg h1]
  (repeat' split)<;>rfl
theorem sC(r:RS)(s:Bs):(r.aX s).1.rst=r.rst∧(r.aX s).1.sp=r.sp:=by
 unfold RS.aX
 dsimp only
 (repeat' split)<;>exact ⟨rfl,rfl⟩
def Fin(g:Bs)(p' p:RS×Int):Prop:=p'.2=p.2∧(p.2=0→p'.1=p.1.fin g)
theorem yC:∀(l:List UInt8),(∀b∈l,(b.toNat:Int)≤127)→di l=true:=by
 intro l
 induction l with
 |nil=>intro _;rfl
 |cons b t ih=>
  intro h
  rw [gT (by simp),pA (l:=b::t) (by simp) (h b List.mem_cons_self)]
  exact ih fun c hc=>h c (List.mem_cons_of_mem _ hc)
def G9(c:UInt8):Prop:=c=47∨c=92
inductive Sw:Bs→Bs→Prop
 |refl (l:Bs):Sw l l
 |same (c:UInt8) {l m:Bs}:c≠63→c≠35→Sw l m→Sw (c::l) (c::m)
 |swap (c d:UInt8) {l m:Bs}:G9 c→G9 d→Sw l m→Sw (c::l) (d::m)
theorem G9.ne {c:UInt8}(h:G9 c):c≠63∧c≠35∧32<c.toNat∧c.toNat<128:=by
 rcases h with h|h<;>rw [h]<;>decide
theorem Sw.len {l m:Bs}(h:Sw l m):l.length=m.length:=by
 induction h with
 |refl l=>rfl
 |same c _ _ _ ih=>simp [ih]
 |swap c d _ _ _ ih=>simp [ih]
theorem Sw.aD {l m:Bs}(h:Sw l m):∀i,aD l i=aD m i∨(aD l i<128∧aD m i<128):=by
 induction h with
 |refl l=>exact fun i=>.inl rfl
 |same c _ _ _ ih=>
  intro i
  cases i with
  |zero=>exact .inl rfl
  |succ i=>rw [cG,cG];exact ih i
 |swap c d hc hd _ ih=>
  intro i
  cases i with
  |zero=>right;rw [cB,cB];have:=hc.ne;have:=hd.ne;omega
  |succ i=>rw [cG,cG];exact ih i
theorem Sw.drop:∀(n:Nat) {l m:Bs},Sw l m→(∀k,k<n→128≤Go.Proofs.YtmfapopclbnlpaaGreatDoor.aD l k)→Sw (l.drop n) (m.drop n)
 |0,_,_,h,_=>h
 |n+1,l,m,h,hb=>by
  cases h with
  |refl l=>exact .refl _
  |same c h1 h2 h=>exact Sw.drop n h fun k hk=>by have:=hb (k+1) (by omega);rwa [cG]at this
  |swap c d hc hd h=>have:=hb 0 (by omega);rw [cB]at this;have:=hc.ne;omega
theorem JQ {l m:Bs}(hl:l.length=m.length)(hb:∀i,aD l i=aD m i∨(aD l i<128∧aD m i<128)):∀(j i:Nat) (r lo hi:Int),128≤lo→nl l j i r lo hi=nl m j i r lo hi
 |0,_,_,_,_,_=>rfl
 |j+1,i,r,lo,hi,hlo=>by
  by_cases g:i<l.length∧lo≤aD l i∧aD l i≤hi
  ·have e:aD l i=aD m i:=by rcases hb i with h|h<;>omega
   rw [eX g,eX (l:=m) (by rw [←hl,←e];exact g),e]
   exact JQ hl hb j (i+1) _ 128 191 (by omega)
  ·have g2:¬(i<m.length∧lo≤aD m i∧aD m i≤hi):=fun h=>by
    have e:aD l i=aD m i:=by rcases hb i with h'|h'<;>omega
    exact g (by rw [hl,e];exact h)
   rw [ju g,ju g2]
theorem Ci {l:Bs}:∀(j i:Nat) (r lo hi:Int),128≤lo→∀k,i≤k→k<(nl l j i r lo hi).2.1→128≤aD l k
 |0,i,_,_,_,_,k,h1,h2=>by exact absurd h2 (by show ¬k<i;omega)
 |j+1,i,r,lo,hi,hlo,k,h1,h2=>by
  by_cases g:i<l.length∧lo≤aD l i∧aD l i≤hi
  ·rw [eX g]at h2
   by_cases e:k=i
   ·subst e;omega
   ·exact Ci j (i+1) _ 128 191 (by omega) k (by omega) h2
  ·rw [ju g]at h2
   exact absurd h2 (by show ¬k<i;omega)
theorem Jk {l m:Bs}(h:Sw l m)(h0:0<l.length)(hh:128≤aD l 0):bb l=bb m∧∀k,k<(bb l).2.1→128≤aD l k:=by
 have e0:aD l 0=aD m 0:=by rcases h.aD 0 with h|h<;>omega
 have hl:=h.len
 have key:bb l=nl l (eo (aD l 0)).1.toNat 1 (aD l 0 %2^(6-(eo (aD l 0)).1.toNat)) (eo (aD l 0)).2.1 (eo (aD l 0)).2.2∨bb l=(65533,1,false):=by
  unfold bb
  rw [if_neg (by omega),if_neg (by omega)]
  split
  ·exact .inr rfl
  ·exact .inl rfl
 constructor
 ·have r1:∀{x:Bs},0<x.length→128≤aD x 0→bb x=if(eo (aD x 0)).1=0 then(65533,1,false)else nl x (eo (aD x 0)).1.toNat 1 (aD x 0 %2^(6-(eo (aD x 0)).1.toNat)) (eo (aD x 0)).2.1 (eo (aD x 0)).2.2:=fun {x} h1 h2=>by
   unfold bb
   rw [if_neg (by omega),if_neg (by omega)]
  rw [r1 h0 hh,r1 (x:=m) (by omega) (by omega),←e0]
  rcases iH (aD l 0)with e|⟨q,lo,hi,e,-,-,h3,-⟩
  ·rw [e];rfl
  ·rw [e]
   dsimp only
   rw [JQ hl h.aD _ 1 _ _ _ h3]
 ·intro k hk
  by_cases e:k=0
  ·subst e;exact hh
  ·rcases key with key|key
   ·rw [key]at hk
    rcases iH (aD l 0)with e|⟨q,lo,hi,e,-,-,h3,-⟩
    ·rw [e]at hk;exact absurd hk (by show ¬k<1;omega)
    ·rw [e]at hk
     exact Ci _ _ _ _ _ h3 k (by omega) hk
   ·rw [key]at hk;exact absurd hk (by show ¬k<1;omega)
theorem Sw.pre:∀(E:Bs),(∀b∈E,128≤b.toNat)→∀{l m:Bs},Sw l m→Sw (E++l) (E++m)
 |[],_,_,_,h=>h
 |b::E,hE,_,_,h=>by
  have hb:=hE b (List.mem_cons_self ..)
  exact .same b (fun e=>by subst e;revert hb;decide) (fun e=>by subst e;revert hb;decide) (Sw.pre E (fun c hc=>hE c (List.mem_cons_of_mem _ hc)) h)
theorem ku(c:UInt8)(l:Bs)(hc:c.toNat<128):bj (c::l)=c::bj l:=D8 [] c l hc
theorem Ej {l:Bs}(h0:0<l.length)(hh:∀k,k<(bb l).2.1→128≤aD l k):∀b∈encR (hZ (bb l).1),128≤b.toNat:=fun b hb=>by
 rcases D9 l h0 with e|e
 ·rw [e]at hb
  obtain ⟨k,hk,rfl⟩:=List.mem_iff_getElem.1 hb
  rw [List.length_take]at hk
  have:=hh k (by omega)
  unfold aD at this
  rw [List.getD_eq_getElem?_getD,List.getElem?_eq_getElem (by omega)]at this
  rw [List.getElem_take]
  have h2:(128:Int)≤((l[k]).toNat:Int):=this
  omega
 ·rw [e]at hb
  exact (show ∀x:UInt8,x∈([239,191,189]:Bs)→128≤x.toNat by decide) b hb
theorem Sw.plain:∀(n:Nat) {l m:Bs},l.length≤n→Sw l m→Sw (bj l) (bj m):=by
 intro n
 induction n with
 |zero=>
  intro l m hn h
  have e:l=[]:=List.eq_nil_of_length_eq_zero (by omega)
  subst e
  have:m=[]:=List.eq_nil_of_length_eq_zero h.len.symm
  subst this;exact .refl _
 |succ n ih=>
  intro l m hn h
  have h':=h
  cases h with
  |refl l=>exact .refl _
  |swap c d hc hd h=>
   rw [ku c _ hc.ne.2.2.2,ku d _ hd.ne.2.2.2]
   exact .swap c d hc hd (ih (by simp at hn;omega) h)
  |same c h1 h2 h=>
   by_cases hc:c.toNat<128
   ·rw [ku c _ hc,ku c _ hc]
    exact .same c h1 h2 (ih (by simp at hn;omega) h)
   ·rename_i l0 m0
    have hp:0<(c::l0).length:=by simp
    obtain ⟨e1,e2⟩:=Jk h' hp (by rw [cB];omega)
    rw [rG (c::l0) hp,rG (c::m0) (by simp),←e1]
    have hn1:=eY (c::l0) hp
    exact Sw.pre _ (Ej hp e2) (ih (by rw [List.length_drop];omega) (Sw.drop _ h' e2))
theorem fA(c:UInt8)(l:Bs):cr (c::l)=if cr l=[]then(if mD c=true then []else [c])else c::cr l:=by
 unfold cr
 rw [List.reverse_cons,List.dropWhile_append]
 by_cases h:l.reverse.dropWhile mD=[]
 ·rw [h]
  simp only [List.isEmpty_nil,if_true,List.reverse_nil]
  by_cases g:mD c=true
  ·rw [if_pos g,List.dropWhile_cons_of_pos g];rfl
  ·rw [if_neg g,List.dropWhile_cons_of_neg (by simpa using g)];rfl
 ·rw [if_neg (by simpa using h),if_neg (by simpa using h),List.reverse_append];rfl
theorem Sw.trim {l m:Bs}(h:Sw l m):Sw (cr l) (cr m):=by
 induction h with
 |refl l=>exact .refl _
 |same c h1 h2 _ ih=>
  rename_i l m _
  have hl:=ih.len
  rw [fA,fA]
  by_cases e:cr l=[]
  ·have e2:cr m=[]:=List.eq_nil_of_length_eq_zero (by rw [←hl,e];rfl)
   rw [if_pos e,if_pos e2];exact .refl _
  ·have e2:cr m≠[]:=fun e2=>e (List.eq_nil_of_length_eq_zero (by rw [hl,e2];rfl))
   rw [if_neg e,if_neg e2];exact .same c h1 h2 ih
 |swap c d hc hd _ ih=>
  rename_i l m _
  have hl:=ih.len
  have nl:∀c:UInt8,G9 c→mD c=false:=fun c hc=>by
   have:=hc.ne;unfold mD;rw [decide_eq_false_iff_not];omega
  rw [fA,fA,nl c hc,nl d hd]
  by_cases e:cr l=[]
  ·have e2:cr m=[]:=List.eq_nil_of_length_eq_zero (by rw [←hl,e];rfl)
   rw [if_pos e,if_pos e2]
   exact .swap c d hc hd (.refl [])
  ·have e2:cr m≠[]:=fun e2=>e (List.eq_nil_of_length_eq_zero (by rw [hl,e2];rfl))
   rw [if_neg e,if_neg e2];exact .swap c d hc hd ih
theorem Sw.we {l m:Bs}(h:Sw l m):Sw (l.filter fun b=>!gN b) (m.filter fun b=>!gN b):=by
 induction h with
 |refl l=>exact .refl _
 |same c h1 h2 _ ih=>
  rw [List.filter_cons,List.filter_cons]
  split
  ·exact .same c h1 h2 ih
  ·exact ih
 |swap c d hc hd _ ih=>
  have ng:∀c:UInt8,G9 c→(!gN c)=true:=fun c hc=>by rcases hc with h|h<;>rw [h]<;>decide
  rw [List.filter_cons,List.filter_cons,ng c hc,ng d hd,if_pos rfl,if_pos rfl]
  exact .swap c d hc hd ih
def Zs(r:Bs):Bs:=(cr (bj r)).filter fun b=>!gN b
theorem Sw.zs {l m:Bs}(h:Sw l m):Sw (Zs l) (Zs m):=(Sw.plain _ (Nat.le_refl _) h).trim.we
theorem ug:∀(S y:Bs),(∀b∈S,32<b.toNat)→S≠[]→cr (S++y)=S++cr y
 |[],_,_,h=>absurd rfl h
 |[c],y,h,_=>by
  have hc:=h c (List.mem_cons_self ..)
  have hl:mD c=false:=by unfold mD;rw [decide_eq_false_iff_not];omega
  show cr (c::y)=c::cr y
  rw [fA,hl]
  by_cases e:cr y=[]
  ·rw [if_pos e,e];rfl
  ·rw [if_neg e]
 |c::d::S,y,h,_=>by
  have ih:=ug (d::S) y (fun b hb=>h b (List.mem_cons_of_mem _ hb)) (by simp)
  show cr (c::((d::S)++y))=c::((d::S)++cr y)
  rw [fA,ih,if_neg (by simp)]
theorem Ek {S r:Bs}(hS:∀b∈S,32<b.toNat∧(b.toNat:Int)≤127)(hne:S≠[]):an (S++r)=S++Zs r:=by
 unfold an Zs
 have e1:bj (S++r)=S++bj r:=by
  have hv:=yC S fun b h=>(hS b h).2
  have h1:=(zu _ S r (Nat.le_refl _) hv).1
  have h2:=mo hv
  unfold bj at *
  rw [h1,jP,h2]
 rw [e1,AX,ug S _ (fun b h=>(hS b h).1) hne,List.filter_append,KY fun b h=>Nat.le_of_lt (hS b h).1]
 intro b hb
 cases S with
 |nil=>exact absurd rfl hne
 |cons x t=>
  have:b=x:=by simpa using hb.symm
  subst this;exact (hS b (List.mem_cons_self ..)).1
theorem Sw.host {l m:Bs}(h:Sw l m):aW l (dU true++[63,35])=aW m (dU true++[63,35])∧l.take (aW l (dU true++[63,35]))=m.take (aW l (dU true++[63,35]))∧Sw (l.drop (aW l (dU true++[63,35]))) (m.drop (aW l (dU true++[63,35]))):=by
 induction h with
 |refl l=>exact ⟨rfl,rfl,.refl _⟩
 |same c h1 h2 h ih=>
  obtain ⟨i1,i2,i3⟩:=ih
  unfold aW at *
  rw [List.findIdx_cons,List.findIdx_cons]
  cases hc:(dU true++[63,35]).contains c with
  |true=>exact ⟨rfl,rfl,.same c h1 h2 h⟩
  |false=>exact ⟨congrArg (· +1) i1,congrArg (c::·) i2,i3⟩
 |swap c d hc hd h ih=>
  have nc:∀c:UInt8,G9 c→(dU true++[63,35]).contains c=true:=fun c hc=>by rcases hc with h|h<;>rw [h]<;>rfl
  unfold aW at *
  rw [List.findIdx_cons,List.findIdx_cons,nc c hc,nc d hd]
  exact ⟨rfl,rfl,.swap c d hc hd h⟩
theorem Sw.LH {l m:Bs}(h:Sw l m):aW l [63,35]=aW m [63,35]∧Sw (l.take (aW l [63,35])) (m.take (aW l [63,35]))∧l.drop (aW l [63,35])=m.drop (aW l [63,35]):=by
 induction h with
 |refl l=>exact ⟨rfl,.refl _,rfl⟩
 |same c h1 h2 h ih=>
  obtain ⟨i1,i2,i3⟩:=ih
  unfold aW at *
  have hc:List.contains [63,35] c=false:=by simp [h1,h2]
  rw [List.findIdx_cons,List.findIdx_cons,hc]
  exact ⟨congrArg (· +1) i1,.same c h1 h2 i2,i3⟩
 |swap c d hc hd h ih=>
  obtain ⟨i1,i2,i3⟩:=ih
  have nc:∀c:UInt8,G9 c→List.contains [63,35] c=false:=fun c hc=>by rcases hc with h|h<;>rw [h]<;>rfl
  unfold aW at *
  rw [List.findIdx_cons,List.findIdx_cons,nc c hc,nc d hd]
  exact ⟨congrArg (· +1) i1,.swap c d hc hd i2,i3⟩
theorem Sw.LI {l m:Bs}(h:Sw l m):aW l [47,92]=aW m [47,92]∧l.take (aW l [47,92])=m.take (aW l [47,92])∧Sw (l.drop (aW l [47,92]+1)) (m.drop (aW l [47,92]+1)):=by
 induction h with
 |refl l=>exact ⟨rfl,rfl,.refl _⟩
 |same c h1 h2 h ih=>
  obtain ⟨i1,i2,i3⟩:=ih
  unfold aW at *
  rw [List.findIdx_cons,List.findIdx_cons]
  cases hc:List.contains [47,92] c with
  |true=>exact ⟨rfl,rfl,h⟩
  |false=>exact ⟨congrArg (· +1) i1,congrArg (c::·) i2,i3⟩
 |swap c d hc hd h ih=>
  have nc:∀c:UInt8,G9 c→List.contains [47,92] c=true:=fun c hc=>by rcases hc with h|h<;>rw [h]<;>rfl
  unfold aW at *
  rw [List.findIdx_cons,List.findIdx_cons,nc c hc,nc d hd]
  exact ⟨rfl,rfl,h⟩
theorem yD(sc:Bs):∀(f:Nat) (l m:Bs) (p:Pa),Sw l m→jU sc [47,92] f l p=jU sc [47,92] f m p
 |0,_,_,_,_=>rfl
 |f+1,l,m,p,h=>by
  obtain ⟨h1,h2,h3⟩:=h.LI
  have hl:=h.len
  unfold jU
  rw [←h1,←hl]
  by_cases e:aW l [47,92]=l.length
  ·rw [if_pos e,if_pos e]
   have:l=m:=by
    rw [e,List.take_length]at h2
    rw [h2,hl,List.take_length]
   rw [this]
  ·rw [if_neg e,if_neg e,h2]
   exact yD sc f _ _ _ h3
theorem pG {l m:Bs}(h:Sw l m):∀z:Nat,az true l z=az true m z:=by
 have key:∀{l m:Bs},Sw l m→∀z:Nat,(∃b d,l[z]?=some b∧m[z]?=some d∧(b=d∨(G9 b∧G9 d)))∨(l[z]?=none∧m[z]?=none):=by
  intro l m h
  induction h with
  |refl l=>intro z;cases e:l[z]?with
   |none=>exact .inr ⟨rfl,rfl⟩
   |some b=>exact .inl ⟨b,b,rfl,rfl,.inl rfl⟩
  |same c _ _ _ ih=>intro z;cases z with
   |zero=>exact .inl ⟨c,c,rfl,rfl,.inl rfl⟩
   |succ z=>simpa using ih z
  |swap c d hc hd _ ih=>intro z;cases z with
   |zero=>exact .inl ⟨c,d,rfl,rfl,.inr ⟨hc,hd⟩⟩
   |succ z=>simpa using ih z
 intro z
 have hl:=h.len
 unfold az al ak
 rw [Int.toNat_natCast,List.getD_eq_getElem?_getD,List.getD_eq_getElem?_getD,hl]
 rcases key h z with⟨b,d,e1,e2,e|⟨e3,e4⟩⟩|⟨e1,e2⟩
 ·rw [e1,e2,e]
 ·rw [e1,e2]
  rcases e3 with e3|e3<;>rcases e4 with e4|e4<;>rw [e3,e4]<;>rfl
 ·rw [e1,e2]
theorem Sw.Cj {l m:Bs}(h:Sw l m)(hl:az true l 0=true):Sw (aa l 1) (aa m 1):=by
 cases h with
 |refl l=>exact .refl _
 |same c _ _ h=>exact h
 |swap c d _ _ h=>exact h
theorem El:∀(k:Nat) (l m:Bs) (n:Int),l.length≤k→Sw l m→Sw (aC l.length true n l) (aC m.length true n m):=by
 intro k
 induction k with
 |zero=>
  intro l m n hk h
  have e:l=[]:=List.eq_nil_of_length_eq_zero (by omega)
  subst e
  have:m=[]:=List.eq_nil_of_length_eq_zero h.len.symm
  subst this;exact .refl _
 |succ k ih=>
  intro l m n hk h
  have hs:az true l 0=az true m 0:=pG h 0
  by_cases g:az true l 0=true
  ·have h1:=nP (qN g)
   rw [qO ⟨g,.inl rfl⟩,qO (l:=m) ⟨by rw [←hs];exact g,.inl rfl⟩]
   exact ih _ _ _ (by omega) (h.Cj g)
  ·have g':az true l 0=false:=by simpa using g
   rw [tN g',tN (by rw [←hs];exact g')]
   exact h
def rQ(sc X:Bs):RS:={RS.init X with sc:=sc,sp:=true,bare:=false}
def Sr(r q:RS):Prop:=r.sp=true∧Sw r.rst q.rst∧q={r with rst:=q.rst}
theorem Sr.cut {r q:RS}(h:Sr r q){n:Nat}(hn:Sw (r.rst.drop n) (q.rst.drop n)):Sr (r.cut n) (q.cut n):=by
 obtain ⟨h1,h2,h3⟩:=h
 rw [h3]
 exact ⟨h1,by unfold RS.cut aa;rw [Int.toNat_natCast];exact hn,rfl⟩
theorem Sr.aX {r q:RS}(h:Sr r q)(s:Bs):Sr (r.aX s).1 (q.aX s).1∧(r.aX s).2=(q.aX s).2:=by
 obtain ⟨h1,h2,h3⟩:=h
 have e:=vW r s q.rst
 have f:=sC r s
 rw [h3,e]
 exact ⟨⟨f.2.trans h1,by rw [f.1];exact h2,rfl⟩,rfl⟩
theorem Sr.host {r q:RS}(h:Sr r q):ah q.sp q.rst=ah r.sp r.rst∧ae q.rst (ah r.sp r.rst)=ae r.rst (ah r.sp r.rst)∧Sr (r.cut (ah r.sp r.rst)) (q.cut (ah r.sp r.rst)):=by
 have hq:q.sp=r.sp:=by rw [h.2.2]
 obtain ⟨g1,g2,g3⟩:=h.2.1.host
 have e:ah r.sp r.rst=aW r.rst (dU true++[63,35]):=by unfold ah;rw [h.1]
 refine ⟨by rw [hq,e];unfold ah;rw [h.1];exact g1.symm,?_,?_⟩
 ·rw [e];unfold ae;rw [Int.toNat_natCast];exact g2.symm
 ·rw [e];exact h.cut g3
theorem Sr.aZ {r q:RS}(h:Sr r q):Sr r.aZ.1 q.aZ.1∧r.aZ.2=q.aZ.2:=by
 obtain ⟨h1,h2,h3⟩:=h.host
 unfold RS.aZ
 dsimp only
 rw [h1,h2]
 split
 ·have hu:∀u p:Bs,Sr ({r.cut (ah r.sp r.rst)with us:=u,pw:=p}:RS) ({q.cut (ah r.sp r.rst)with us:=u,pw:=p}:RS):=fun u p=>by
   obtain ⟨a,b,c⟩:=h3
   refine ⟨a,b,?_⟩
   rw [c]
  split
  ·exact ⟨hu _ _,rfl⟩
  ·exact (hu _ _).aX _
 ·exact h3.aX _
theorem Sr.shl {r q:RS}(h:Sr r q):Sr r.shl q.shl:=by
 obtain ⟨h1,h2,h3⟩:=h
 have hs:az true r.rst 0=az true q.rst 0:=pG h2 0
 have hq:q.sp=true:=by rw [h3];exact h1
 refine ⟨h1,?_,?_⟩
 ·unfold RS.shl
  dsimp only
  rw [h1,hq,←hs]
  split
  ·rename_i g;exact h2.Cj g
  ·exact h2
 ·unfold RS.shl
  rw [h3]
theorem Sr.path {r q:RS}(h:Sr r q):q.path=r.path:=by
 obtain ⟨h1,h2,h3⟩:=h
 obtain ⟨g1,g2,g3⟩:=h2.LH
 rw [h3]
 unfold RS.path
 dsimp only
 have e1:aF q.rst=aF r.rst:=g1.symm
 have e2:aa q.rst (aF r.rst:Int)=aa r.rst (aF r.rst:Int):=by unfold aa;rw [Int.toNat_natCast];exact g3.symm
 have e3:∀p,bt r.sp r.sc (ae q.rst (aF r.rst:Int)) p=bt r.sp r.sc (ae r.rst (aF r.rst:Int)) p:=fun p=>by
  have g2':Sw (ae r.rst (aF r.rst:Int)) (ae q.rst (aF r.rst:Int)):=by unfold ae;rw [Int.toNat_natCast];exact g2
  unfold bt kK
  rw [←g2'.len,h1]
  exact (yD r.sc _ _ _ p g2').symm
 rw [e1,e2,e3]
theorem Sr.bz {r q:RS}(h:Sr r q):q.bz.2=r.bz.2∧(r.bz.2=0→q.bz=r.bz):=by
 obtain ⟨h1,h2⟩:=h.aZ
 have hr:r.aZ.1.sp=true:=h1.1
 have hq:q.aZ.1.sp=true:=by rw [h1.2.2];exact hr
 unfold RS.bz
 rw [←h2,hr,hq]
 split
 ·rw [if_neg (by rintro ⟨h,-⟩;cases h),if_neg (by rintro ⟨h,-⟩;cases h),h1.shl.path]
  exact ⟨rfl,fun _=>rfl⟩
 ·rename_i g
  exact ⟨h2.symm,fun h=>absurd h g⟩
theorem Sr.av {r q:RS}(h:Sr r q):Sr r.av.1 q.av.1∧r.av.2=q.av.2:=by
 obtain ⟨h1,h2,h3⟩:=h.host
 unfold RS.av
 dsimp only
 rw [h1,h2]
 split
 ·exact ⟨h3,rfl⟩
 ·obtain ⟨a,b,c⟩:=h3
  split
  ·exact ⟨⟨a,b,c⟩,rfl⟩
  ·refine ⟨⟨a,b,?_⟩,rfl⟩
   rw [c]
theorem Sr.file {r q:RS}(h:Sr r q):q.aS.2=r.aS.2∧(r.aS.2=0→q.aS=r.aS):=by
 have hk:Sr ({r with hk:=1}:RS) ({q with hk:=1}:RS):=by
  obtain ⟨a,b,c⟩:=h
  refine ⟨a,b,?_⟩
  rw [c]
 have hq:q.sp=true:=by rw [h.2.2];exact h.1
 have s0:az true r.rst 0=az true q.rst 0:=pG h.2.1 0
 have s1:az true r.rst 1=az true q.rst 1:=pG h.2.1 1
 have c0:(az q.sp q.rst 0=true∧az q.sp q.rst 1=true)↔(az r.sp r.rst 0=true∧az r.sp r.rst 1=true):=by rw [h.1,hq,s0,s1]
 unfold RS.aS
 dsimp only
 by_cases g:az r.sp r.rst 0=true∧az r.sp r.rst 1=true
 ·rw [if_pos g,if_pos (c0.2 g)]
  rw [h.1]at g
  have hd:Sw (r.rst.drop 2) (q.rst.drop 2):=by
   have h1:=h.2.1.Cj g.1
   have h2:=Sw.Cj h1 (by
    have:=pE g.2
    have e:az true (aa r.rst 1) 0=az true r.rst 1:=by
     have e0:aa r.rst 1=r.rst.drop 1:=rfl
     rw [e0]
     unfold az al ak
     congr 1
     ·rw [decide_eq_decide,List.length_drop];omega
     ·simp [List.getD,List.getElem?_drop]
      rfl
    rw [e];exact g.2)
   unfold aa at h2
   rw [List.drop_drop,List.drop_drop]at h2
   exact h2
  have hc:Sr (({r with hk:=1}:RS).cut 2) (({q with hk:=1}:RS).cut 2):=hk.cut (n:=2) hd
  obtain ⟨g1,g2,g3⟩:=hc.host
  obtain ⟨f1,f2⟩:=hc.av
  rw [g1,g2,hc.path]
  split
  ·exact ⟨rfl,fun _=>rfl⟩
  ·rw [←f2,f1.shl.path]
   split
   ·exact ⟨rfl,fun _=>rfl⟩
   ·rename_i g
    exact ⟨f2.symm,fun h=>absurd h g⟩
 ·rw [if_neg g,if_neg fun h=>g (c0.1 h),hk.shl.path]
  exact ⟨rfl,fun _=>rfl⟩
theorem uh {p X:Bs}(hp:p≠[])(h:∀b∈p,r9 b=true)(hs:ay (bE p)=true):
 (RS.init (p++58::X)).ao=if bE p=fL then(if(rQ (bE p) X).aS.2=0 then((rQ (bE p) X).aS.1.tail,0)else(rQ (bE p) X).aS)else(rQ (bE p) X).skip.bz:=by
 have e:(RS.init (p++58::X)).gq=(rQ (bE p) X,0):=by
  unfold RS.gq
  show(if(ab (p++58::X) (p++58::X) 0).2.2=true then _ else _)=_
  rw [show ab (RS.init (p++58::X)).rst (RS.init (p++58::X)).rst 0=(bE p,X,true)from xL hp h,xL hp h,if_pos rfl,hs]
  rfl
 unfold RS.ao
 rw [e,if_pos rfl]
 dsimp only
 by_cases g:bE p=fL
 ·rw [if_pos (show(rQ (bE p) X).sc=fL from g),if_pos g]
 ·rw [if_neg (show ¬(rQ (bE p) X).sc=fL from g),if_neg g,if_pos (show(rQ (bE p) X).sp=true from rfl)]
theorem Ha {p l m:Bs}(hp:p≠[])(h:∀b∈p,r9 b=true)(h2:∀b∈p,32<b.toNat∧(b.toNat:Int)≤127)(hs:ay (bE p)=true)(hw:Sw l m):bM (p++58::m)=bM (p++58::l):=by
 have hS:∀b∈p++[58],32<b.toNat∧(b.toNat:Int)≤127:=fun b hb=>by
  rcases List.mem_append.1 hb with hb|hb
  ·exact h2 b hb
  ·have:b=58:=by simpa using hb
   subst this;decide
 have st:∀x:Bs,an (p++58::x)=p++58::Zs x:=fun x=>by
  have:=Ek (r:=x) hS (by simp)
  simpa using this
 have hz:Sr (rQ (bE p) (Zs l)) (rQ (bE p) (Zs m)):=⟨rfl,hw.zs,rfl⟩
 have hk:Sr (rQ (bE p) (Zs l)).skip (rQ (bE p) (Zs m)).skip:=⟨rfl,El _ _ _ _ (Nat.le_refl _) hw.zs,rfl⟩
 unfold bM L3
 rw [st,st,uh hp h hs,uh hp h hs]
 by_cases g:bE p=fL
 ·rw [if_pos g,if_pos g]
  obtain ⟨f1,f2⟩:=hz.file
  by_cases g0:(rQ (bE p) (Zs l)).aS.2=0
  ·rw [f2 g0]
  ·have em:(if(rQ (bE p) (Zs m)).aS.2=0 then((rQ (bE p) (Zs m)).aS.1.tail,0)else(rQ (bE p) (Zs m)).aS)=(rQ (bE p) (Zs m)).aS:=if_neg (by rw [f1];exact g0)
   have el:(if(rQ (bE p) (Zs l)).aS.2=0 then((rQ (bE p) (Zs l)).aS.1.tail,0)else(rQ (bE p) (Zs l)).aS)=(rQ (bE p) (Zs l)).aS:=if_neg g0
   rw [em,el,f1,if_neg g0,if_neg g0]
 ·rw [if_neg g,if_neg g]
  obtain ⟨f1,f2⟩:=hk.bz
  by_cases g0:(rQ (bE p) (Zs l)).skip.bz.2=0
  ·rw [f2 g0]
  ·rw [f1,if_neg g0,if_neg g0]
section
theorem ui(sc m:Bs):∀(f:Nat) (s:Bs) (p:Pa),s.length<f→(jU sc m f s p).2.length≤p.2.length+s.length+1
 |0,_,_,h=>by omega
 |f+1,s,p,h=>by
  unfold jU
  split
  ·have:=nW sc p s true
   omega
  ·have hl:=fe s m
   have h1:=nW sc p (s.take (aW s m)) false
   have h2:=ui sc m f (s.drop (aW s m+1)) (cH sc p (s.take (aW s m)) false) (by rw [List.length_drop];omega)
   rw [List.length_drop]at h2
   omega
theorem Em {α:Type}(l:List α)(z:Int):(ae l z).length≤l.length:=by unfold ae;rw [List.length_take];exact Nat.min_le_right _ _
theorem oh {α:Type}(l:List α)(z:Int):(aa l z).length≤l.length:=by unfold aa;rw [List.length_drop];omega
theorem Jl(r:RS):r.path.pl.length≤r.pl.length+r.rst.length+1:=by
 unfold RS.path bt kK
 dsimp only
 have:=ui r.sc (dU r.sp) ((ae r.rst (aF r.rst)).length+1) (ae r.rst (aF r.rst)) (r.pn,r.pl) (Nat.lt_succ_self _)
 have:=Em r.rst (aF r.rst)
 dsimp only at *
 omega
def Sm(n:Nat)(r:RS):Prop:=r.pl=[]∧r.rst.length≤n
variable {n:Nat} {r:RS}
theorem Sm.cut(h:Sm n r)(z:Int):Sm n (r.cut z):=⟨h.1,Nat.le_trans (oh _ _) h.2⟩
theorem Sm.shl(h:Sm n r):Sm n r.shl:=⟨h.1,by
 unfold RS.shl
 dsimp only
 split
 ·exact Nat.le_trans (oh _ _) h.2
 ·exact h.2⟩
theorem rN(sp:Bool):∀(f:Nat) (k:Int) (l:Bs),(aC f sp k l).length≤l.length
 |0,_,_=>Nat.le_refl _
 |f+1,k,l=>by
  unfold aC
  split
  ·exact Nat.le_trans (rN sp f _ _) (oh _ _)
  ·exact Nat.le_refl _
theorem Sm.skip(h:Sm n r):Sm n r.skip:=⟨h.1,Nat.le_trans (rN _ _ _ _) h.2⟩
theorem Sm.aX(h:Sm n r)(s:Bs):Sm n (r.aX s).1:=by
 unfold RS.aX
 dsimp only
 (repeat' split)<;>exact h
theorem Sm.aZ(h:Sm n r):Sm n r.aZ.1:=by
 unfold RS.aZ
 dsimp only
 split
 ·split
  ·exact h.cut _
  ·refine Sm.aX ?_ _
   exact ⟨h.1,(h.cut _).2⟩
 ·exact (h.cut _).aX _
theorem Sm.av(h:Sm n r):Sm n r.av.1:=by
 unfold RS.av
 dsimp only
 (repeat' split)<;>exact h.cut _
theorem mT(r:RS):r.tail.pl=r.pl:=by
 unfold RS.tail RS.IT RS.query
 (repeat' split)<;>rfl
theorem Sm.path(h:Sm n r):r.path.pl.length≤n+1:=by
 have:=Jl r
 have h1:=h.2
 rw [h.1]at this
 simp at this
 omega
theorem Sm.none(h:Sm n r):r.pl.length≤n+1:=by rw [h.1];simp
theorem Sm.bz(h:Sm n r):r.bz.1.pl.length≤n+1:=by
 unfold RS.bz
 split
 ·split
  ·rw [mT];exact h.aZ.none
  ·rw [mT];exact h.aZ.shl.path
 ·exact h.aZ.none
theorem Sm.file(h:Sm n r):r.aS.1.pl.length≤n+1:=by
 have h1:Sm n ({r with hk:=1}:RS):=h
 unfold RS.aS
 dsimp only
 split
 ·split
  ·exact (h1.cut 2).path
  ·split
   ·exact (h1.cut 2).av.shl.path
   ·exact (h1.cut 2).av.none
 ·exact h1.shl.path
theorem vX(l:Bs):∀(t:Bs) (i:Nat),(ab l t i).2.1.length≤l.length
 |[],_=>Nat.zero_le _
 |c::t,i=>by
  rw [ab]
  (repeat' split)
  ·exact vX l t _
  ·exact Nat.zero_le _
  ·show(l.drop _).length≤_
   rw [List.length_drop];omega
  ·exact vX l t _
  ·exact Nat.zero_le _
theorem Sm.scheme(h:Sm n r):Sm n r.gq.1:=by
 unfold RS.gq
 split
 ·exact ⟨h.1,Nat.le_trans (vX _ _ _) h.2⟩
 ·exact h
theorem Sm.parts(h:Sm n r):r.ao.1.pl.length≤n+1:=by
 have hs:=h.scheme
 unfold RS.ao
 split
 ·dsimp only
  split
  ·split
   ·rw [mT];exact hs.file
   ·exact hs.file
  ·split
   ·exact hs.skip.bz
   ·split
    ·exact (hs.cut 2).bz
    ·split
     ·rw [mT];exact (hs.cut 1).path
     ·rw [mT]
      unfold RS.mC
      show 1≤n+1
      omega
 ·exact hs.none
theorem Jm(l:Bs):(bM l).1.pl.length≤(an l).length+1:=by
 unfold bM L3
 split
 ·exact Sm.parts (n:=(an l).length) ⟨rfl,Nat.le_refl _⟩
 ·exact Nat.zero_le _
end
end Go.Proofs.YtmfapopclbnlpaaGreatDoor
