import Derived.Test.YtmfapopclbnlpaaGreatDoorProg
import Derived.ProofKit
import Derived.Test.YtmfapopclbnlpaaGreatDoorHs6
import Derived.Test.YtmfapopclbnlpaaGreatDoorHs18
import Derived.Test.YtmfapopclbnlpaaGreatDoorHs23
set_option linter.unusedVariables false
set_option linter.unusedSimpArgs false
set_option maxRecDepth 100000
set_option maxHeartbeats 4000000
namespace Go.Proofs.YtmfapopclbnlpaaGreatDoor
open Go Go.Proofs Go.RowKit Go.Vc
section
theorem kQ(r:RS)(s:Bs):(r.aZ s).1={r with hk:=(r.aZ s).1.hk,hs:=(r.aZ s).1.hs,hn:=(r.aZ s).1.hn,hp:=(r.aZ s).1.hp,port:=(r.aZ s).1.port}:=by
 unfold RS.aZ
 dsimp only
 (repeat' split)<;>rfl
theorem Ei(r:RS):r.aU.1={r with us:=r.aU.1.us,pw:=r.aU.1.pw,hk:=r.aU.1.hk,hs:=r.aU.1.hs,hn:=r.aU.1.hn,hp:=r.aU.1.hp,port:=r.aU.1.port,rst:=aa r.rst (ah r.sp r.rst)}:=by
 unfold RS.aU
 dsimp only
 split
 ·split
  ·rfl
  ·rw [kQ];rfl
 ·rw [kQ];rfl
theorem A0(r:RS):r.aY.1={r with hk:=r.aY.1.hk,hs:=r.aY.1.hs,hn:=r.aY.1.hn,hp:=r.aY.1.hp,pn:=r.aY.1.pn,pl:=r.aY.1.pl,rst:=r.aY.1.rst}:=by
 unfold RS.aY
 dsimp only
 split
 ·split
  ·rfl
  ·split
   ·rw [eD];rfl
   ·rw [eD];rfl
 ·rfl
theorem rL(r:RS):r.path.rst.length≤r.rst.length:=cP _ _
theorem vW(r:RS):r.av.1.rst.length≤r.rst.length:=by rw [eD];exact cP _ _
theorem Ej(r:RS):r.aY.1.rst.length≤r.rst.length:=by
 unfold RS.aY
 dsimp only
 split
 ·have h2:=cP r.rst 2
  split
  ·exact Nat.le_trans (rL _) h2
  ·have h3:=vW (({r with hk:=1}:RS).cut 2)
   split
   ·exact Nat.le_trans (rL _) (Nat.le_trans (mW _ _) (Nat.le_trans h3 h2))
   ·exact Nat.le_trans h3 h2
 ·exact Nat.le_trans (rL _) (mW _ _)
theorem rM:∀(f:Nat) (sp:Bool) (n:Int) (l:Bs),(aC f sp n l).length≤l.length
 |0,_,_,l=>Nat.le_refl _
 |f+1,sp,n,l=>by
  unfold aC
  split
  ·exact Nat.le_trans (rM f sp (n+1) _) (cP _ _)
  ·exact Nat.le_refl _
theorem rN(l:Bs):∀(r:Bs) (i:Nat),(ab l r i).2.1.length≤l.length
 |[],_=>Nat.zero_le _
 |c::r,i=>by
  unfold ab
  split
  ·exact rN l r (i+1)
  ·split
   ·exact Nat.zero_le _
   ·split
    ·show(l.drop (i+1)).length≤_
     rw [List.length_drop];omega
    ·split
     ·exact rN l r (i+1)
     ·exact Nat.zero_le _
theorem jt(r:RS):r.tail={r with hq:=ee r.rst r.hq,q:=eh r.sp r.rst r.q,hf:=ei (bK r.rst) r.hf,fg:=ej (bK r.rst) r.fg,rst:=en (bK r.rst)}:=by
 unfold RS.tail
 rw [Jy,GZ]
theorem iT(l:Bs):(bK l).length≤l.length:=by
 unfold bK
 split
 ·exact Nat.le_trans (cP _ _) (cP _ _)
 ·exact Nat.le_refl _
def ot(r:RS):PV:=(aE 0 (.raw (.pointer none)) (r.sc) (r.us) (r.pw) (r.hk) (r.hs) (r.hn) (r.hp) (r.port) (r.opq) (r.pn) (r.pl) (r.hq) (r.q) (r.hf) (r.fg) (r.bare) (r.sp) (r.rst))
def KT(o:RS×Int):PV→List PV→Prop:=fun v os=>v=.int .i64 o.2∧PV.bh (PV.aW cT) os=[ot o.1]
def A1(k:PV→List PV→Prop)(sc us pw:Bs)(hk:Int)(hs:Bs)(hn:Int)(hp:List Int)(port:Int)(pn:Bool)(pl:List Bs)(hq:Bool)(q:Bs)(hf:Bool)(fg:Bs)(bare sp:Bool)(rst:Bs):Prop:=∀(x:RS),(RS.mk sc us pw hk hs hn hp port false pn pl hq q hf fg bare sp rst).ao=x.bX∧
 List.length x.rst≤(300000:Nat)∧
 x.pl.length≤(100000:Nat)→
 (List.length x.rst).le (300000:Nat)∧
 ((!decide (x.aU.2=(0:Int)))=true→
 k (PV.int .i64 x.aU.2) [bT (PV.raw (Go.Value.pointer none)) 1 x.sc (x.aU.1.us) (x.aU.1.pw) (x.aU.1.hk) (x.aU.1.hs) (x.aU.1.hn) (x.aU.1.hp) (x.aU.1.port) x.opq x.pn x.pl x.hq x.q x.hf x.fg x.bare x.sp (aa x.rst ↑(ah x.sp x.rst))])∧
 ((!decide (x.aU.2=(0:Int)))=false→
 ((!x.sp)=true→
 True∧
 (bz (aa x.rst ↑(ah x.sp x.rst))=true→
 (aa x.rst ↑(ah x.sp x.rst)).length.le (300000:Nat)∧
 (List.length (bK (aa x.rst ↑(ah x.sp x.rst)))).le (300000:Nat)∧
 k (PV.int .i64 (0:Int)) [bT (PV.raw (Go.Value.pointer none)) 1 x.sc (x.aU.1.us) (x.aU.1.pw) (x.aU.1.hk) (x.aU.1.hs) (x.aU.1.hn) (x.aU.1.hp) (x.aU.1.port) x.opq x.pn x.pl (ee (aa x.rst ↑(ah x.sp x.rst)) x.hq) (eh x.sp (aa x.rst ↑(ah x.sp x.rst)) x.q) (ei (bK (aa x.rst ↑(ah x.sp x.rst))) x.hf) (ej (bK (aa x.rst ↑(ah x.sp x.rst))) x.fg) x.bare x.sp (en (bK (aa x.rst ↑(ah x.sp x.rst))))])∧
 (bz (aa x.rst ↑(ah x.sp x.rst))=false→
 True∧
 (List.length (if az x.sp (aa x.rst ↑(ah x.sp x.rst)) (0:Int)=true then aa (aa x.rst ↑(ah x.sp x.rst)) (1:Int)else aa x.rst ↑(ah x.sp x.rst))≤(300000:Nat)∧
 x.pl.length≤(100000:Nat))∧
 (aa (if az x.sp (aa x.rst ↑(ah x.sp x.rst)) (0:Int)=true then aa (aa x.rst ↑(ah x.sp x.rst)) (1:Int)else aa x.rst ↑(ah x.sp x.rst)) ↑(aF (if az x.sp (aa x.rst ↑(ah x.sp x.rst)) (0:Int)=true then aa (aa x.rst ↑(ah x.sp x.rst)) (1:Int)else aa x.rst ↑(ah x.sp x.rst)))).length.le (300000:Nat)∧
 (List.length (bK (aa (if az x.sp (aa x.rst ↑(ah x.sp x.rst)) (0:Int)=true then aa (aa x.rst ↑(ah x.sp x.rst)) (1:Int)else aa x.rst ↑(ah x.sp x.rst)) ↑(aF (if az x.sp (aa x.rst ↑(ah x.sp x.rst)) (0:Int)=true then aa (aa x.rst ↑(ah x.sp x.rst)) (1:Int)else aa x.rst ↑(ah x.sp x.rst)))))).le (300000:Nat)∧
 k (PV.int .i64 (0:Int)) [bT (PV.raw (Go.Value.pointer none)) 1 x.sc (x.aU.1.us) (x.aU.1.pw) (x.aU.1.hk) (x.aU.1.hs) (x.aU.1.hn) (x.aU.1.hp) (x.aU.1.port) x.opq ((bC x.sp x.sc (ae (if az x.sp (aa x.rst ↑(ah x.sp x.rst)) (0:Int)=true then aa (aa x.rst ↑(ah x.sp x.rst)) (1:Int)else aa x.rst ↑(ah x.sp x.rst)) ↑(aF (if az x.sp (aa x.rst ↑(ah x.sp x.rst)) (0:Int)=true then aa (aa x.rst ↑(ah x.sp x.rst)) (1:Int)else aa x.rst ↑(ah x.sp x.rst)))) (x.pn,x.pl)).1) ((bC x.sp x.sc (ae (if az x.sp (aa x.rst ↑(ah x.sp x.rst)) (0:Int)=true then aa (aa x.rst ↑(ah x.sp x.rst)) (1:Int)else aa x.rst ↑(ah x.sp x.rst)) ↑(aF (if az x.sp (aa x.rst ↑(ah x.sp x.rst)) (0:Int)=true then aa (aa x.rst ↑(ah x.sp x.rst)) (1:Int)else aa x.rst ↑(ah x.sp x.rst)))) (x.pn,x.pl)).2) (ee (aa (if az x.sp (aa x.rst ↑(ah x.sp x.rst)) (0:Int)=true then aa (aa x.rst ↑(ah x.sp x.rst)) (1:Int)else aa x.rst ↑(ah x.sp x.rst)) ↑(aF (if az x.sp (aa x.rst ↑(ah x.sp x.rst)) (0:Int)=true then aa (aa x.rst ↑(ah x.sp x.rst)) (1:Int)else aa x.rst ↑(ah x.sp x.rst)))) x.hq) (eh x.sp (aa (if az x.sp (aa x.rst ↑(ah x.sp x.rst)) (0:Int)=true then aa (aa x.rst ↑(ah x.sp x.rst)) (1:Int)else aa x.rst ↑(ah x.sp x.rst)) ↑(aF (if az x.sp (aa x.rst ↑(ah x.sp x.rst)) (0:Int)=true then aa (aa x.rst ↑(ah x.sp x.rst)) (1:Int)else aa x.rst ↑(ah x.sp x.rst)))) x.q) (ei (bK (aa (if az x.sp (aa x.rst ↑(ah x.sp x.rst)) (0:Int)=true then aa (aa x.rst ↑(ah x.sp x.rst)) (1:Int)else aa x.rst ↑(ah x.sp x.rst)) ↑(aF (if az x.sp (aa x.rst ↑(ah x.sp x.rst)) (0:Int)=true then aa (aa x.rst ↑(ah x.sp x.rst)) (1:Int)else aa x.rst ↑(ah x.sp x.rst))))) x.hf) (ej (bK (aa (if az x.sp (aa x.rst ↑(ah x.sp x.rst)) (0:Int)=true then aa (aa x.rst ↑(ah x.sp x.rst)) (1:Int)else aa x.rst ↑(ah x.sp x.rst)) ↑(aF (if az x.sp (aa x.rst ↑(ah x.sp x.rst)) (0:Int)=true then aa (aa x.rst ↑(ah x.sp x.rst)) (1:Int)else aa x.rst ↑(ah x.sp x.rst))))) x.fg) x.bare x.sp (en (bK (aa (if az x.sp (aa x.rst ↑(ah x.sp x.rst)) (0:Int)=true then aa (aa x.rst ↑(ah x.sp x.rst)) (1:Int)else aa x.rst ↑(ah x.sp x.rst)) ↑(aF (if az x.sp (aa x.rst ↑(ah x.sp x.rst)) (0:Int)=true then aa (aa x.rst ↑(ah x.sp x.rst)) (1:Int)else aa x.rst ↑(ah x.sp x.rst))))))]))∧
 ((!x.sp)=!true→
 (false=true→
 (aa x.rst ↑(ah x.sp x.rst)).length.le (300000:Nat)∧
 (List.length (bK (aa x.rst ↑(ah x.sp x.rst)))).le (300000:Nat)∧
 k (PV.int .i64 (0:Int)) [bT (PV.raw (Go.Value.pointer none)) 1 x.sc (x.aU.1.us) (x.aU.1.pw) (x.aU.1.hk) (x.aU.1.hs) (x.aU.1.hn) (x.aU.1.hp) (x.aU.1.port) x.opq x.pn x.pl (ee (aa x.rst ↑(ah x.sp x.rst)) x.hq) (eh x.sp (aa x.rst ↑(ah x.sp x.rst)) x.q) (ei (bK (aa x.rst ↑(ah x.sp x.rst))) x.hf) (ej (bK (aa x.rst ↑(ah x.sp x.rst))) x.fg) x.bare x.sp (en (bK (aa x.rst ↑(ah x.sp x.rst))))])∧
 (false=false→
 True∧
 (List.length (if az x.sp (aa x.rst ↑(ah x.sp x.rst)) (0:Int)=true then aa (aa x.rst ↑(ah x.sp x.rst)) (1:Int)else aa x.rst ↑(ah x.sp x.rst))≤(300000:Nat)∧
 x.pl.length≤(100000:Nat))∧
 (aa (if az x.sp (aa x.rst ↑(ah x.sp x.rst)) (0:Int)=true then aa (aa x.rst ↑(ah x.sp x.rst)) (1:Int)else aa x.rst ↑(ah x.sp x.rst)) ↑(aF (if az x.sp (aa x.rst ↑(ah x.sp x.rst)) (0:Int)=true then aa (aa x.rst ↑(ah x.sp x.rst)) (1:Int)else aa x.rst ↑(ah x.sp x.rst)))).length.le (300000:Nat)∧
 (List.length (bK (aa (if az x.sp (aa x.rst ↑(ah x.sp x.rst)) (0:Int)=true then aa (aa x.rst ↑(ah x.sp x.rst)) (1:Int)else aa x.rst ↑(ah x.sp x.rst)) ↑(aF (if az x.sp (aa x.rst ↑(ah x.sp x.rst)) (0:Int)=true then aa (aa x.rst ↑(ah x.sp x.rst)) (1:Int)else aa x.rst ↑(ah x.sp x.rst)))))).le (300000:Nat)∧
 k (PV.int .i64 (0:Int)) [bT (PV.raw (Go.Value.pointer none)) 1 x.sc (x.aU.1.us) (x.aU.1.pw) (x.aU.1.hk) (x.aU.1.hs) (x.aU.1.hn) (x.aU.1.hp) (x.aU.1.port) x.opq ((bC x.sp x.sc (ae (if az x.sp (aa x.rst ↑(ah x.sp x.rst)) (0:Int)=true then aa (aa x.rst ↑(ah x.sp x.rst)) (1:Int)else aa x.rst ↑(ah x.sp x.rst)) ↑(aF (if az x.sp (aa x.rst ↑(ah x.sp x.rst)) (0:Int)=true then aa (aa x.rst ↑(ah x.sp x.rst)) (1:Int)else aa x.rst ↑(ah x.sp x.rst)))) (x.pn,x.pl)).1) ((bC x.sp x.sc (ae (if az x.sp (aa x.rst ↑(ah x.sp x.rst)) (0:Int)=true then aa (aa x.rst ↑(ah x.sp x.rst)) (1:Int)else aa x.rst ↑(ah x.sp x.rst)) ↑(aF (if az x.sp (aa x.rst ↑(ah x.sp x.rst)) (0:Int)=true then aa (aa x.rst ↑(ah x.sp x.rst)) (1:Int)else aa x.rst ↑(ah x.sp x.rst)))) (x.pn,x.pl)).2) (ee (aa (if az x.sp (aa x.rst ↑(ah x.sp x.rst)) (0:Int)=true then aa (aa x.rst ↑(ah x.sp x.rst)) (1:Int)else aa x.rst ↑(ah x.sp x.rst)) ↑(aF (if az x.sp (aa x.rst ↑(ah x.sp x.rst)) (0:Int)=true then aa (aa x.rst ↑(ah x.sp x.rst)) (1:Int)else aa x.rst ↑(ah x.sp x.rst)))) x.hq) (eh x.sp (aa (if az x.sp (aa x.rst ↑(ah x.sp x.rst)) (0:Int)=true then aa (aa x.rst ↑(ah x.sp x.rst)) (1:Int)else aa x.rst ↑(ah x.sp x.rst)) ↑(aF (if az x.sp (aa x.rst ↑(ah x.sp x.rst)) (0:Int)=true then aa (aa x.rst ↑(ah x.sp x.rst)) (1:Int)else aa x.rst ↑(ah x.sp x.rst)))) x.q) (ei (bK (aa (if az x.sp (aa x.rst ↑(ah x.sp x.rst)) (0:Int)=true then aa (aa x.rst ↑(ah x.sp x.rst)) (1:Int)else aa x.rst ↑(ah x.sp x.rst)) ↑(aF (if az x.sp (aa x.rst ↑(ah x.sp x.rst)) (0:Int)=true then aa (aa x.rst ↑(ah x.sp x.rst)) (1:Int)else aa x.rst ↑(ah x.sp x.rst))))) x.hf) (ej (bK (aa (if az x.sp (aa x.rst ↑(ah x.sp x.rst)) (0:Int)=true then aa (aa x.rst ↑(ah x.sp x.rst)) (1:Int)else aa x.rst ↑(ah x.sp x.rst)) ↑(aF (if az x.sp (aa x.rst ↑(ah x.sp x.rst)) (0:Int)=true then aa (aa x.rst ↑(ah x.sp x.rst)) (1:Int)else aa x.rst ↑(ah x.sp x.rst))))) x.fg) x.bare x.sp (en (bK (aa (if az x.sp (aa x.rst ↑(ah x.sp x.rst)) (0:Int)=true then aa (aa x.rst ↑(ah x.sp x.rst)) (1:Int)else aa x.rst ↑(ah x.sp x.rst)) ↑(aF (if az x.sp (aa x.rst ↑(ah x.sp x.rst)) (0:Int)=true then aa (aa x.rst ↑(ah x.sp x.rst)) (1:Int)else aa x.rst ↑(ah x.sp x.rst))))))])))
def Jz(k:PV→List PV→Prop)(sc us pw:Bs)(hk:Int)(hs:Bs)(hn:Int)(hp:List Int)(port:Int)(pn:Bool)(pl:List Bs)(hq:Bool)(q:Bs)(hf:Bool)(fg:Bs)(bare sp:Bool)(rst:Bs):Prop:=∀(x:RS),(RS.mk sc us pw hk hs hn hp port false pn pl hq q hf fg bare sp rst).ao=(x.path.tail,(0:Int))∧
 List.length x.rst≤(300000:Nat)∧
 x.pl.length≤(100000:Nat)→
 (List.length x.rst≤(300000:Nat)∧
 x.pl.length≤(100000:Nat))∧
 (aa x.rst ↑(aF x.rst)).length.le (300000:Nat)∧
 (List.length (bK (aa x.rst ↑(aF x.rst)))).le (300000:Nat)∧
 k (PV.int .i64 (0:Int)) [bT (PV.raw (Go.Value.pointer none)) 1 x.sc x.us x.pw x.hk x.hs x.hn x.hp x.port x.opq ((bC x.sp x.sc (ae x.rst ↑(aF x.rst)) (x.pn,x.pl)).1) ((bC x.sp x.sc (ae x.rst ↑(aF x.rst)) (x.pn,x.pl)).2) (ee (aa x.rst ↑(aF x.rst)) x.hq) (eh x.sp (aa x.rst ↑(aF x.rst)) x.q) (ei (bK (aa x.rst ↑(aF x.rst))) x.hf) (ej (bK (aa x.rst ↑(aF x.rst))) x.fg) x.bare x.sp (en (bK (aa x.rst ↑(aF x.rst))))]
theorem JA(sc us pw:Bs)(hk:Int)(hs:Bs)(hn:Int)(hp:List Int)(port:Int)(pn:Bool)(pl:List Bs)(hq:Bool)(q:Bs)(hf:Bool)(fg:Bs)(bare sp:Bool)(rst:Bs):Jz (KT (RS.mk sc us pw hk hs hn hp port false pn pl hq q hf fg bare sp rst).ao) sc us pw hk hs hn hp port pn pl hq q hf fg bare sp rst:=fun x ⟨h1,h2,h3⟩=>by
 have hl:=cP x.rst (aF x.rst)
 have hq':=iT (aa x.rst (aF x.rst))
 rw [h1]
 refine ⟨⟨h2,h3⟩,show(aa x.rst (aF x.rst)).length≤300000 by omega,show(bK (aa x.rst (aF x.rst))).length≤300000 by omega,rfl,?_⟩
 show _=[ot x.path.tail]
 rw [jt]
 rfl
set_option maxHeartbeats 4000000 in
theorem JB(sc us pw:Bs)(hk:Int)(hs:Bs)(hn:Int)(hp:List Int)(port:Int)(pn:Bool)(pl:List Bs)(hq:Bool)(q:Bs)(hf:Bool)(fg:Bs)(bare sp:Bool)(rst:Bs):A1 (KT (RS.mk sc us pw hk hs hn hp port false pn pl hq q hf fg bare sp rst).ao) sc us pw hk hs hn hp port pn pl hq q hf fg bare sp rst:=fun x ⟨h1,h2,h3⟩=>by
 have er:=Ei x
 have e_sc:x.aU.1.sc=x.sc:=(by have h:=congrArg RS.sc er;exact h)
 have e_opq:x.aU.1.opq=x.opq:=(by have h:=congrArg RS.opq er;exact h)
 have e_pn:x.aU.1.pn=x.pn:=(by have h:=congrArg RS.pn er;exact h)
 have e_pl:x.aU.1.pl=x.pl:=(by have h:=congrArg RS.pl er;exact h)
 have e_hq:x.aU.1.hq=x.hq:=(by have h:=congrArg RS.hq er;exact h)
 have e_q:x.aU.1.q=x.q:=(by have h:=congrArg RS.q er;exact h)
 have e_hf:x.aU.1.hf=x.hf:=(by have h:=congrArg RS.hf er;exact h)
 have e_fg:x.aU.1.fg=x.fg:=(by have h:=congrArg RS.fg er;exact h)
 have e_bare:x.aU.1.bare=x.bare:=(by have h:=congrArg RS.bare er;exact h)
 have e_sp:x.aU.1.sp=x.sp:=(by have h:=congrArg RS.sp er;exact h)
 have e_rst:x.aU.1.rst=aa x.rst (ah x.sp x.rst):=(by have h:=congrArg RS.rst er;exact h)
 have hl:=cP x.rst (ah x.sp x.rst)
 have hl2:=iT (aa x.rst (ah x.sp x.rst))
 have hs1:=mW x.sp (aa x.rst (ah x.sp x.rst))
 have pl1:∀R:Bs,R.length≤x.rst.length→(aa R (aF R)).length≤300000∧(bK (aa R (aF R))).length≤300000:=fun R hR=>by
  have a:=cP R (aF R)
  have b:=iT (aa R (aF R))
  omega
 have ea:x.bX=if x.aU.2=0 then(if x.aU.1.sp=false∧bz x.aU.1.rst=true then(x.aU.1.tail,0)else(x.aU.1.shl.path.tail,0))else x.aU:=rfl
 have fin:x.bX=(x.aU.1.shl.path.tail,0)→KT x.bX (.int .i64 0) [ot {x with us:=x.aU.1.us,pw:=x.aU.1.pw,hk:=x.aU.1.hk,hs:=x.aU.1.hs,hn:=x.aU.1.hn,hp:=x.aU.1.hp,port:=x.aU.1.port,pn:=(bC x.sp x.sc (ae (if az x.sp (aa x.rst (ah x.sp x.rst)) 0=true then aa (aa x.rst (ah x.sp x.rst)) 1 else aa x.rst (ah x.sp x.rst)) (aF (if az x.sp (aa x.rst (ah x.sp x.rst)) 0=true then aa (aa x.rst (ah x.sp x.rst)) 1 else aa x.rst (ah x.sp x.rst)))) (x.pn,x.pl)).1,pl:=(bC x.sp x.sc (ae (if az x.sp (aa x.rst (ah x.sp x.rst)) 0=true then aa (aa x.rst (ah x.sp x.rst)) 1 else aa x.rst (ah x.sp x.rst)) (aF (if az x.sp (aa x.rst (ah x.sp x.rst)) 0=true then aa (aa x.rst (ah x.sp x.rst)) 1 else aa x.rst (ah x.sp x.rst)))) (x.pn,x.pl)).2,hq:=ee (aa (if az x.sp (aa x.rst (ah x.sp x.rst)) 0=true then aa (aa x.rst (ah x.sp x.rst)) 1 else aa x.rst (ah x.sp x.rst)) (aF (if az x.sp (aa x.rst (ah x.sp x.rst)) 0=true then aa (aa x.rst (ah x.sp x.rst)) 1 else aa x.rst (ah x.sp x.rst)))) x.hq,q:=eh x.sp (aa (if az x.sp (aa x.rst (ah x.sp x.rst)) 0=true then aa (aa x.rst (ah x.sp x.rst)) 1 else aa x.rst (ah x.sp x.rst)) (aF (if az x.sp (aa x.rst (ah x.sp x.rst)) 0=true then aa (aa x.rst (ah x.sp x.rst)) 1 else aa x.rst (ah x.sp x.rst)))) x.q,hf:=ei (bK (aa (if az x.sp (aa x.rst (ah x.sp x.rst)) 0=true then aa (aa x.rst (ah x.sp x.rst)) 1 else aa x.rst (ah x.sp x.rst)) (aF (if az x.sp (aa x.rst (ah x.sp x.rst)) 0=true then aa (aa x.rst (ah x.sp x.rst)) 1 else aa x.rst (ah x.sp x.rst))))) x.hf,fg:=ej (bK (aa (if az x.sp (aa x.rst (ah x.sp x.rst)) 0=true then aa (aa x.rst (ah x.sp x.rst)) 1 else aa x.rst (ah x.sp x.rst)) (aF (if az x.sp (aa x.rst (ah x.sp x.rst)) 0=true then aa (aa x.rst (ah x.sp x.rst)) 1 else aa x.rst (ah x.sp x.rst))))) x.fg,rst:=en (bK (aa (if az x.sp (aa x.rst (ah x.sp x.rst)) 0=true then aa (aa x.rst (ah x.sp x.rst)) 1 else aa x.rst (ah x.sp x.rst)) (aF (if az x.sp (aa x.rst (ah x.sp x.rst)) 0=true then aa (aa x.rst (ah x.sp x.rst)) 1 else aa x.rst (ah x.sp x.rst)))))}]:=fun h=>by
  rw [h]
  refine ⟨rfl,?_⟩
  show [ot _]=[ot x.aU.1.shl.path.tail]
  rw [jt]
  unfold RS.path RS.shl
  dsimp only
  simp only [e_sc,e_opq,e_pn,e_pl,e_hq,e_q,e_hf,e_fg,e_bare,e_sp,e_rst]
 rw [h1]
 refine ⟨show x.rst.length≤300000 from h2,fun hc=>?_,fun hc=>⟨fun hs=>⟨trivial,fun ht=>⟨show(aa x.rst (ah x.sp x.rst)).length≤300000 by omega,show(bK (aa x.rst (ah x.sp x.rst))).length≤300000 by omega,?_⟩,fun ht=>⟨trivial,⟨by omega,h3⟩,(pl1 _ (by omega)).1,(pl1 _ (by omega)).2,?_⟩⟩,fun hs=>⟨fun h=>(by cases h),fun _=>⟨trivial,⟨by omega,h3⟩,(pl1 _ (by omega)).1,(pl1 _ (by omega)).2,?_⟩⟩⟩⟩
 ·have hc':¬x.aU.2=0:=by simpa using hc
  rw [ea,if_neg hc']
  exact ⟨rfl,congrArg (fun r=>[ot r]) er.symm⟩
 ·have hc':x.aU.2=0:=by simpa using hc
  have hs':x.sp=false:=by simpa using hs
  rw [ea,if_pos hc',if_pos ⟨by rw [e_sp];exact hs',by rw [e_rst];exact ht⟩]
  refine ⟨rfl,?_⟩
  show _=[ot x.aU.1.tail]
  rw [jt]
  simp only [e_sc,e_opq,e_pn,e_pl,e_hq,e_q,e_hf,e_fg,e_bare,e_sp,e_rst]
  rfl
 ·have hc':x.aU.2=0:=by simpa using hc
  exact fin (by rw [ea,if_pos hc',if_neg (by rintro ⟨-,h⟩;rw [e_rst]at h;rw [ht]at h;cases h)])
 ·have hc':x.aU.2=0:=by simpa using hc
  have hs':x.sp=true:=by simpa using hs
  exact fin (by rw [ea,if_pos hc',if_neg (by rintro ⟨h,-⟩;rw [e_sp,hs']at h;cases h)])
def yp:cp:=bP [(75,kb),(76,og),(77,gA),(78,cY),(79,gg),(80,j3),(81,lF),(82,gz),(88,ig),(89,lD),(84,fJ),(90,mO),(91,n9),(92,jr),(91,lG),(92,ij)]
def yq(sc us pw:Bs)(hk:Int)(hs:Bs)(hn:Int)(hp:List Int)(port:Int)(pn:Bool)(pl:List Bs)(hq:Bool)(q:Bs)(hf:Bool)(fg:Bs)(bare sp:Bool)(rst:Bs):ba:=fun i=>bif Nat.beq i 1000002 then some ⟨(RS),(fun s x=>(VS.mk s.loc s.env [(0,aE 1 (.raw (.pointer none)) (x.sc) (x.us) (x.pw) (x.hk) (x.hs) (x.hn) (x.hp) (x.port) (x.opq) (x.pn) (x.pl) (x.hq) (x.q) (x.hf) (x.fg) (x.bare) (x.sp) (x.rst))])),(fun s=>RS.mk (s.bx 0 [0,0]).dc (s.bx 0 [0,1]).dc (s.bx 0 [0,2]).dc (s.bx 0 [0,3,0]).asInt (s.bx 0 [0,3,1]).dc (s.bx 0 [0,3,2]).asInt (s.bx 0 [0,3,3]).ng (s.bx 0 [0,4]).asInt (s.bx 0 [0,5]).asBool (s.bx 0 [0,6]).lP (s.bx 0 [0,6]).kT (s.bx 0 [0,7]).asBool (s.bx 0 [0,8]).dc (s.bx 0 [0,9]).asBool (s.bx 0 [0,10]).dc (s.bx 0 [2]).asBool (s.bx 0 [3]).asBool (s.bx 0 [4]).dc),(fun s x=>let r:=x;(RS.mk sc us pw hk hs hn hp port false pn pl hq q hf fg bare sp rst).ao=r.bX∧r.rst.length≤300000∧r.pl.length≤100000),(fun s x=>let r:=x;0),[]⟩else bif Nat.beq i 1000003 then some ⟨(RS),(fun s x=>(VS.mk s.loc s.env [(0,aE 1 (.raw (.pointer none)) (x.sc) (x.us) (x.pw) (x.hk) (x.hs) (x.hn) (x.hp) (x.port) (x.opq) (x.pn) (x.pl) (x.hq) (x.q) (x.hf) (x.fg) (x.bare) (x.sp) (x.rst))])),(fun s=>RS.mk (s.bx 0 [0,0]).dc (s.bx 0 [0,1]).dc (s.bx 0 [0,2]).dc (s.bx 0 [0,3,0]).asInt (s.bx 0 [0,3,1]).dc (s.bx 0 [0,3,2]).asInt (s.bx 0 [0,3,3]).ng (s.bx 0 [0,4]).asInt (s.bx 0 [0,5]).asBool (s.bx 0 [0,6]).lP (s.bx 0 [0,6]).kT (s.bx 0 [0,7]).asBool (s.bx 0 [0,8]).dc (s.bx 0 [0,9]).asBool (s.bx 0 [0,10]).dc (s.bx 0 [2]).asBool (s.bx 0 [3]).asBool (s.bx 0 [4]).dc),(fun s x=>let r:=x;(RS.mk sc us pw hk hs hn hp port false pn pl hq q hf fg bare sp rst).ao=(r.path.tail,0)∧r.rst.length≤300000∧r.pl.length≤100000),(fun s x=>let r:=x;0),[]⟩else bif Nat.beq i 1000001 then some ⟨(RS),(fun s x=>(VS.mk [] [] [])),(fun s=>RS.mk (s.bx 0 [0,0]).dc (s.bx 0 [0,1]).dc (s.bx 0 [0,2]).dc (s.bx 0 [0,3,0]).asInt (s.bx 0 [0,3,1]).dc (s.bx 0 [0,3,2]).asInt (s.bx 0 [0,3,3]).ng (s.bx 0 [0,4]).asInt (s.bx 0 [0,5]).asBool (s.bx 0 [0,6]).lP (s.bx 0 [0,6]).kT (s.bx 0 [0,7]).asBool (s.bx 0 [0,8]).dc (s.bx 0 [0,9]).asBool (s.bx 0 [0,10]).dc (s.bx 0 [2]).asBool (s.bx 0 [3]).asBool (s.bx 0 [4]).dc),(fun s x=>let r:=x;False),(fun s x=>let r:=x;0),[]⟩else none
theorem yr:cR Tryz.prog aA yp:=ai rH (ai vP (ai gw (ai cI (ai lC (ai j4 (ai so (ai gv (ai n7 (ai sk (ai iS (ai o5 (ai vF (ai pq (ai sq (ai ob (ax))))))))))))))))
theorem Ek(sc us pw:Bs)(hk:Int)(hs:Bs)(hn:Int)(hp:List Int)(port:Int)(pn:Bool)(pl:List Bs)(hq:Bool)(q:Bs)(hf:Bool)(fg:Bs)(bare sp:Bool)(rst:Bs)(k:PV→List PV→Prop):bQ Tryz.prog yp aA (yq sc us pw hk hs hn hp port pn pl hq q hf fg bare sp rst) 1000 Tryz.f47 [.ptr 0 0] [aE 1 (.raw (.pointer none)) sc us pw hk hs hn hp port false pn pl hq q hf fg bare sp rst] k=(
 (List.length rst≤(300000:Nat)∧
 (ab rst rst (0:Nat)).2.2=true)∧
 ((!decide ((0:Int)=(0:Int)))=true→
 k (PV.int .i64 (0:Int)) [bT (PV.raw (Go.Value.pointer none)) 1 ((ab rst rst (0:Nat)).1) us pw hk hs hn hp port false pn pl hq q hf fg false (ay (ab rst rst (0:Nat)).1) ((ab rst rst (0:Nat)).2.1)])∧
 ((!decide ((0:Int)=(0:Int)))=false→
 (false=true→
 (List.length (ab rst rst (0:Nat)).2.1).le (300000:Nat)∧
 (List.length (bK (ab rst rst (0:Nat)).2.1)).le (300000:Nat)∧
 k (PV.int .i64 (0:Int)) [bT (PV.raw (Go.Value.pointer none)) 1 ((ab rst rst (0:Nat)).1) us pw hk hs hn hp port false pn pl (ee (ab rst rst (0:Nat)).2.1 hq) (eh (ay (ab rst rst (0:Nat)).1) (ab rst rst (0:Nat)).2.1 q) (ei (bK (ab rst rst (0:Nat)).2.1) hf) (ej (bK (ab rst rst (0:Nat)).2.1) fg) false (ay (ab rst rst (0:Nat)).1) (en (bK (ab rst rst (0:Nat)).2.1))])∧
 (false=false→
 (decide ((ab rst rst (0:Nat)).1=(ByteArray.mk #[102,105,108,101]).data.toList)=true→
 (List.length (ab rst rst (0:Nat)).2.1≤(300000:Nat)∧
 pl.length≤(100000:Nat))∧
 ((!decide ((RS.mk (ab rst rst (0:Nat)).1 us pw hk hs hn hp port false pn pl hq q hf fg false (ay (ab rst rst (0:Nat)).1) (ab rst rst (0:Nat)).2.1).aY.2=(0:Int)))=true→
 k (PV.int .i64 (RS.mk (ab rst rst (0:Nat)).1 us pw hk hs hn hp port false pn pl hq q hf fg false (ay (ab rst rst (0:Nat)).1) (ab rst rst (0:Nat)).2.1).aY.2) [bT (PV.raw (Go.Value.pointer none)) 1 ((ab rst rst (0:Nat)).1) us pw ((RS.mk (ab rst rst (0:Nat)).1 us pw hk hs hn hp port false pn pl hq q hf fg false (ay (ab rst rst (0:Nat)).1) (ab rst rst (0:Nat)).2.1).aY.1.hk) ((RS.mk (ab rst rst (0:Nat)).1 us pw hk hs hn hp port false pn pl hq q hf fg false (ay (ab rst rst (0:Nat)).1) (ab rst rst (0:Nat)).2.1).aY.1.hs) ((RS.mk (ab rst rst (0:Nat)).1 us pw hk hs hn hp port false pn pl hq q hf fg false (ay (ab rst rst (0:Nat)).1) (ab rst rst (0:Nat)).2.1).aY.1.hn) ((RS.mk (ab rst rst (0:Nat)).1 us pw hk hs hn hp port false pn pl hq q hf fg false (ay (ab rst rst (0:Nat)).1) (ab rst rst (0:Nat)).2.1).aY.1.hp) port false ((RS.mk (ab rst rst (0:Nat)).1 us pw hk hs hn hp port false pn pl hq q hf fg false (ay (ab rst rst (0:Nat)).1) (ab rst rst (0:Nat)).2.1).aY.1.pn) ((RS.mk (ab rst rst (0:Nat)).1 us pw hk hs hn hp port false pn pl hq q hf fg false (ay (ab rst rst (0:Nat)).1) (ab rst rst (0:Nat)).2.1).aY.1.pl) hq q hf fg false (ay (ab rst rst (0:Nat)).1) ((RS.mk (ab rst rst (0:Nat)).1 us pw hk hs hn hp port false pn pl hq q hf fg false (ay (ab rst rst (0:Nat)).1) (ab rst rst (0:Nat)).2.1).aY.1.rst)])∧
 ((!decide ((RS.mk (ab rst rst (0:Nat)).1 us pw hk hs hn hp port false pn pl hq q hf fg false (ay (ab rst rst (0:Nat)).1) (ab rst rst (0:Nat)).2.1).aY.2=(0:Int)))=false→
 (List.length (RS.mk (ab rst rst (0:Nat)).1 us pw hk hs hn hp port false pn pl hq q hf fg false (ay (ab rst rst (0:Nat)).1) (ab rst rst (0:Nat)).2.1).aY.1.rst).le (300000:Nat)∧
 (List.length (bK (RS.mk (ab rst rst (0:Nat)).1 us pw hk hs hn hp port false pn pl hq q hf fg false (ay (ab rst rst (0:Nat)).1) (ab rst rst (0:Nat)).2.1).aY.1.rst)).le (300000:Nat)∧
 k (PV.int .i64 (0:Int)) [bT (PV.raw (Go.Value.pointer none)) 1 ((ab rst rst (0:Nat)).1) us pw ((RS.mk (ab rst rst (0:Nat)).1 us pw hk hs hn hp port false pn pl hq q hf fg false (ay (ab rst rst (0:Nat)).1) (ab rst rst (0:Nat)).2.1).aY.1.hk) ((RS.mk (ab rst rst (0:Nat)).1 us pw hk hs hn hp port false pn pl hq q hf fg false (ay (ab rst rst (0:Nat)).1) (ab rst rst (0:Nat)).2.1).aY.1.hs) ((RS.mk (ab rst rst (0:Nat)).1 us pw hk hs hn hp port false pn pl hq q hf fg false (ay (ab rst rst (0:Nat)).1) (ab rst rst (0:Nat)).2.1).aY.1.hn) ((RS.mk (ab rst rst (0:Nat)).1 us pw hk hs hn hp port false pn pl hq q hf fg false (ay (ab rst rst (0:Nat)).1) (ab rst rst (0:Nat)).2.1).aY.1.hp) port false ((RS.mk (ab rst rst (0:Nat)).1 us pw hk hs hn hp port false pn pl hq q hf fg false (ay (ab rst rst (0:Nat)).1) (ab rst rst (0:Nat)).2.1).aY.1.pn) ((RS.mk (ab rst rst (0:Nat)).1 us pw hk hs hn hp port false pn pl hq q hf fg false (ay (ab rst rst (0:Nat)).1) (ab rst rst (0:Nat)).2.1).aY.1.pl) (ee (RS.mk (ab rst rst (0:Nat)).1 us pw hk hs hn hp port false pn pl hq q hf fg false (ay (ab rst rst (0:Nat)).1) (ab rst rst (0:Nat)).2.1).aY.1.rst hq) (eh (ay (ab rst rst (0:Nat)).1) (RS.mk (ab rst rst (0:Nat)).1 us pw hk hs hn hp port false pn pl hq q hf fg false (ay (ab rst rst (0:Nat)).1) (ab rst rst (0:Nat)).2.1).aY.1.rst q) (ei (bK (RS.mk (ab rst rst (0:Nat)).1 us pw hk hs hn hp port false pn pl hq q hf fg false (ay (ab rst rst (0:Nat)).1) (ab rst rst (0:Nat)).2.1).aY.1.rst) hf) (ej (bK (RS.mk (ab rst rst (0:Nat)).1 us pw hk hs hn hp port false pn pl hq q hf fg false (ay (ab rst rst (0:Nat)).1) (ab rst rst (0:Nat)).2.1).aY.1.rst) fg) false (ay (ab rst rst (0:Nat)).1) (en (bK (RS.mk (ab rst rst (0:Nat)).1 us pw hk hs hn hp port false pn pl hq q hf fg false (ay (ab rst rst (0:Nat)).1) (ab rst rst (0:Nat)).2.1).aY.1.rst))]))∧
 (decide ((ab rst rst (0:Nat)).1=(ByteArray.mk #[102,105,108,101]).data.toList)=false→
 (false=false→
 (ay (ab rst rst (0:Nat)).1=true→
 True∧
 (false=false→
 false=true→
 True)∧
 (false=true→
 VS.mk [] [(0,PV.ptr (0:Nat) (0:Nat)),(2,PV.int .i64 (0:Int)),(3,PV.int .i64 (0:Int)),(6,PV.bool !decide ((0:Int)=(0:Int))),(10,PV.bool false),(16,PV.bool (decide ((ab rst rst (0:Nat)).1=(ByteArray.mk #[102,105,108,101]).data.toList))),(26,PV.undef),(28,PV.bool false),(51,PV.undef),(58,PV.undef),(61,PV.undef),(71,PV.undef),(77,PV.undef),(81,PV.undef),(87,PV.undef),(97,PV.undef)] [((0:Nat),bT (PV.raw (Go.Value.pointer none)) 1 ((ab rst rst (0:Nat)).1) us pw hk hs hn hp port false pn pl hq q hf fg false (ay (ab rst rst (0:Nat)).1) ((ab rst rst (0:Nat)).2.1))]=VS.mk [] [] []∧
 False∧
 ∀(x:RS),False→
 False)∧
 (false=false→
 (ay (ab rst rst (0:Nat)).1=true→
 (List.length (ab rst rst (0:Nat)).2.1).le (300000:Nat)∧
 VS.mk [] [(0,PV.ptr (0:Nat) (0:Nat)),(2,PV.int .i64 (0:Int)),(3,PV.int .i64 (0:Int)),(6,PV.bool !decide ((0:Int)=(0:Int))),(10,PV.bool false),(16,PV.bool (decide ((ab rst rst (0:Nat)).1=(ByteArray.mk #[102,105,108,101]).data.toList))),(26,PV.undef),(28,PV.bool false),(51,PV.bool (ay (ab rst rst (0:Nat)).1)),(58,PV.undef),(61,PV.undef),(71,PV.undef),(77,PV.undef),(81,PV.undef),(87,PV.undef),(97,PV.undef)] [((0:Nat),bT (PV.raw (Go.Value.pointer none)) 1 ((ab rst rst (0:Nat)).1) us pw hk hs hn hp port false pn pl hq q hf fg false (ay (ab rst rst (0:Nat)).1) (aC (List.length (ab rst rst (0:Nat)).2.1) (ay (ab rst rst (0:Nat)).1) (0:Int) (ab rst rst (0:Nat)).2.1))]=VS.mk [] [(0,PV.ptr (0:Nat) (0:Nat)),(2,PV.int .i64 (0:Int)),(3,PV.int .i64 (0:Int)),(6,PV.bool !decide ((0:Int)=(0:Int))),(10,PV.bool false),(16,PV.bool (decide ((ab rst rst (0:Nat)).1=(ByteArray.mk #[102,105,108,101]).data.toList))),(26,PV.undef),(28,PV.bool false),(51,PV.bool (ay (ab rst rst (0:Nat)).1)),(58,PV.undef),(61,PV.undef),(71,PV.undef),(77,PV.undef),(81,PV.undef),(87,PV.undef),(97,PV.undef)] [((0:Nat),bT (PV.raw (Go.Value.pointer none)) 1 ((RS.mk (ab rst rst (0:Nat)).1 us pw hk hs hn hp port false pn pl hq q hf fg false (ay (ab rst rst (0:Nat)).1) (aC (List.length (ab rst rst (0:Nat)).2.1) (ay (ab rst rst (0:Nat)).1) (0:Int) (ab rst rst (0:Nat)).2.1)).sc) ((RS.mk (ab rst rst (0:Nat)).1 us pw hk hs hn hp port false pn pl hq q hf fg false (ay (ab rst rst (0:Nat)).1) (aC (List.length (ab rst rst (0:Nat)).2.1) (ay (ab rst rst (0:Nat)).1) (0:Int) (ab rst rst (0:Nat)).2.1)).us) ((RS.mk (ab rst rst (0:Nat)).1 us pw hk hs hn hp port false pn pl hq q hf fg false (ay (ab rst rst (0:Nat)).1) (aC (List.length (ab rst rst (0:Nat)).2.1) (ay (ab rst rst (0:Nat)).1) (0:Int) (ab rst rst (0:Nat)).2.1)).pw) ((RS.mk (ab rst rst (0:Nat)).1 us pw hk hs hn hp port false pn pl hq q hf fg false (ay (ab rst rst (0:Nat)).1) (aC (List.length (ab rst rst (0:Nat)).2.1) (ay (ab rst rst (0:Nat)).1) (0:Int) (ab rst rst (0:Nat)).2.1)).hk) ((RS.mk (ab rst rst (0:Nat)).1 us pw hk hs hn hp port false pn pl hq q hf fg false (ay (ab rst rst (0:Nat)).1) (aC (List.length (ab rst rst (0:Nat)).2.1) (ay (ab rst rst (0:Nat)).1) (0:Int) (ab rst rst (0:Nat)).2.1)).hs) ((RS.mk (ab rst rst (0:Nat)).1 us pw hk hs hn hp port false pn pl hq q hf fg false (ay (ab rst rst (0:Nat)).1) (aC (List.length (ab rst rst (0:Nat)).2.1) (ay (ab rst rst (0:Nat)).1) (0:Int) (ab rst rst (0:Nat)).2.1)).hn) ((RS.mk (ab rst rst (0:Nat)).1 us pw hk hs hn hp port false pn pl hq q hf fg false (ay (ab rst rst (0:Nat)).1) (aC (List.length (ab rst rst (0:Nat)).2.1) (ay (ab rst rst (0:Nat)).1) (0:Int) (ab rst rst (0:Nat)).2.1)).hp) ((RS.mk (ab rst rst (0:Nat)).1 us pw hk hs hn hp port false pn pl hq q hf fg false (ay (ab rst rst (0:Nat)).1) (aC (List.length (ab rst rst (0:Nat)).2.1) (ay (ab rst rst (0:Nat)).1) (0:Int) (ab rst rst (0:Nat)).2.1)).port) ((RS.mk (ab rst rst (0:Nat)).1 us pw hk hs hn hp port false pn pl hq q hf fg false (ay (ab rst rst (0:Nat)).1) (aC (List.length (ab rst rst (0:Nat)).2.1) (ay (ab rst rst (0:Nat)).1) (0:Int) (ab rst rst (0:Nat)).2.1)).opq) ((RS.mk (ab rst rst (0:Nat)).1 us pw hk hs hn hp port false pn pl hq q hf fg false (ay (ab rst rst (0:Nat)).1) (aC (List.length (ab rst rst (0:Nat)).2.1) (ay (ab rst rst (0:Nat)).1) (0:Int) (ab rst rst (0:Nat)).2.1)).pn) ((RS.mk (ab rst rst (0:Nat)).1 us pw hk hs hn hp port false pn pl hq q hf fg false (ay (ab rst rst (0:Nat)).1) (aC (List.length (ab rst rst (0:Nat)).2.1) (ay (ab rst rst (0:Nat)).1) (0:Int) (ab rst rst (0:Nat)).2.1)).pl) ((RS.mk (ab rst rst (0:Nat)).1 us pw hk hs hn hp port false pn pl hq q hf fg false (ay (ab rst rst (0:Nat)).1) (aC (List.length (ab rst rst (0:Nat)).2.1) (ay (ab rst rst (0:Nat)).1) (0:Int) (ab rst rst (0:Nat)).2.1)).hq) ((RS.mk (ab rst rst (0:Nat)).1 us pw hk hs hn hp port false pn pl hq q hf fg false (ay (ab rst rst (0:Nat)).1) (aC (List.length (ab rst rst (0:Nat)).2.1) (ay (ab rst rst (0:Nat)).1) (0:Int) (ab rst rst (0:Nat)).2.1)).q) ((RS.mk (ab rst rst (0:Nat)).1 us pw hk hs hn hp port false pn pl hq q hf fg false (ay (ab rst rst (0:Nat)).1) (aC (List.length (ab rst rst (0:Nat)).2.1) (ay (ab rst rst (0:Nat)).1) (0:Int) (ab rst rst (0:Nat)).2.1)).hf) ((RS.mk (ab rst rst (0:Nat)).1 us pw hk hs hn hp port false pn pl hq q hf fg false (ay (ab rst rst (0:Nat)).1) (aC (List.length (ab rst rst (0:Nat)).2.1) (ay (ab rst rst (0:Nat)).1) (0:Int) (ab rst rst (0:Nat)).2.1)).fg) ((RS.mk (ab rst rst (0:Nat)).1 us pw hk hs hn hp port false pn pl hq q hf fg false (ay (ab rst rst (0:Nat)).1) (aC (List.length (ab rst rst (0:Nat)).2.1) (ay (ab rst rst (0:Nat)).1) (0:Int) (ab rst rst (0:Nat)).2.1)).bare) ((RS.mk (ab rst rst (0:Nat)).1 us pw hk hs hn hp port false pn pl hq q hf fg false (ay (ab rst rst (0:Nat)).1) (aC (List.length (ab rst rst (0:Nat)).2.1) (ay (ab rst rst (0:Nat)).1) (0:Int) (ab rst rst (0:Nat)).2.1)).sp) ((RS.mk (ab rst rst (0:Nat)).1 us pw hk hs hn hp port false pn pl hq q hf fg false (ay (ab rst rst (0:Nat)).1) (aC (List.length (ab rst rst (0:Nat)).2.1) (ay (ab rst rst (0:Nat)).1) (0:Int) (ab rst rst (0:Nat)).2.1)).rst))]∧
 ((RS.mk sc us pw hk hs hn hp port false pn pl hq q hf fg bare sp rst).ao=(RS.mk (ab rst rst (0:Nat)).1 us pw hk hs hn hp port false pn pl hq q hf fg false (ay (ab rst rst (0:Nat)).1) (aC (List.length (ab rst rst (0:Nat)).2.1) (ay (ab rst rst (0:Nat)).1) (0:Int) (ab rst rst (0:Nat)).2.1)).bX∧
 List.length (RS.mk (ab rst rst (0:Nat)).1 us pw hk hs hn hp port false pn pl hq q hf fg false (ay (ab rst rst (0:Nat)).1) (aC (List.length (ab rst rst (0:Nat)).2.1) (ay (ab rst rst (0:Nat)).1) (0:Int) (ab rst rst (0:Nat)).2.1)).rst≤(300000:Nat)∧
 (RS.mk (ab rst rst (0:Nat)).1 us pw hk hs hn hp port false pn pl hq q hf fg false (ay (ab rst rst (0:Nat)).1) (aC (List.length (ab rst rst (0:Nat)).2.1) (ay (ab rst rst (0:Nat)).1) (0:Int) (ab rst rst (0:Nat)).2.1)).pl.length≤(100000:Nat))∧
 A1 k sc us pw hk hs hn hp port pn pl hq q hf fg bare sp rst)∧
 (ay (ab rst rst (0:Nat)).1=false→
 True∧
 ((aj (ab rst rst (0:Nat)).2.1 (ByteArray.mk #[47,47]).data.toList).2=true→
 VS.mk [] [(0,PV.ptr (0:Nat) (0:Nat)),(2,PV.int .i64 (0:Int)),(3,PV.int .i64 (0:Int)),(6,PV.bool !decide ((0:Int)=(0:Int))),(10,PV.bool false),(16,PV.bool (decide ((ab rst rst (0:Nat)).1=(ByteArray.mk #[102,105,108,101]).data.toList))),(26,PV.undef),(28,PV.bool false),(51,PV.bool (ay (ab rst rst (0:Nat)).1)),(58,PV.bool (aj (ab rst rst (0:Nat)).2.1 (ByteArray.mk #[47,47]).data.toList).2),(61,PV.undef),(71,PV.undef),(77,PV.undef),(81,PV.undef),(87,PV.undef),(97,PV.undef)] [((0:Nat),bT (PV.raw (Go.Value.pointer none)) 1 ((ab rst rst (0:Nat)).1) us pw hk hs hn hp port false pn pl hq q hf fg false (ay (ab rst rst (0:Nat)).1) ((aj (ab rst rst (0:Nat)).2.1 (ByteArray.mk #[47,47]).data.toList).1))]=VS.mk [] [(0,PV.ptr (0:Nat) (0:Nat)),(2,PV.int .i64 (0:Int)),(3,PV.int .i64 (0:Int)),(6,PV.bool !decide ((0:Int)=(0:Int))),(10,PV.bool false),(16,PV.bool (decide ((ab rst rst (0:Nat)).1=(ByteArray.mk #[102,105,108,101]).data.toList))),(26,PV.undef),(28,PV.bool false),(51,PV.bool (ay (ab rst rst (0:Nat)).1)),(58,PV.bool (aj (ab rst rst (0:Nat)).2.1 (ByteArray.mk #[47,47]).data.toList).2),(61,PV.undef),(71,PV.undef),(77,PV.undef),(81,PV.undef),(87,PV.undef),(97,PV.undef)] [((0:Nat),bT (PV.raw (Go.Value.pointer none)) 1 ((RS.mk (ab rst rst (0:Nat)).1 us pw hk hs hn hp port false pn pl hq q hf fg false (ay (ab rst rst (0:Nat)).1) (aj (ab rst rst (0:Nat)).2.1 (ByteArray.mk #[47,47]).data.toList).1).sc) ((RS.mk (ab rst rst (0:Nat)).1 us pw hk hs hn hp port false pn pl hq q hf fg false (ay (ab rst rst (0:Nat)).1) (aj (ab rst rst (0:Nat)).2.1 (ByteArray.mk #[47,47]).data.toList).1).us) ((RS.mk (ab rst rst (0:Nat)).1 us pw hk hs hn hp port false pn pl hq q hf fg false (ay (ab rst rst (0:Nat)).1) (aj (ab rst rst (0:Nat)).2.1 (ByteArray.mk #[47,47]).data.toList).1).pw) ((RS.mk (ab rst rst (0:Nat)).1 us pw hk hs hn hp port false pn pl hq q hf fg false (ay (ab rst rst (0:Nat)).1) (aj (ab rst rst (0:Nat)).2.1 (ByteArray.mk #[47,47]).data.toList).1).hk) ((RS.mk (ab rst rst (0:Nat)).1 us pw hk hs hn hp port false pn pl hq q hf fg false (ay (ab rst rst (0:Nat)).1) (aj (ab rst rst (0:Nat)).2.1 (ByteArray.mk #[47,47]).data.toList).1).hs) ((RS.mk (ab rst rst (0:Nat)).1 us pw hk hs hn hp port false pn pl hq q hf fg false (ay (ab rst rst (0:Nat)).1) (aj (ab rst rst (0:Nat)).2.1 (ByteArray.mk #[47,47]).data.toList).1).hn) ((RS.mk (ab rst rst (0:Nat)).1 us pw hk hs hn hp port false pn pl hq q hf fg false (ay (ab rst rst (0:Nat)).1) (aj (ab rst rst (0:Nat)).2.1 (ByteArray.mk #[47,47]).data.toList).1).hp) ((RS.mk (ab rst rst (0:Nat)).1 us pw hk hs hn hp port false pn pl hq q hf fg false (ay (ab rst rst (0:Nat)).1) (aj (ab rst rst (0:Nat)).2.1 (ByteArray.mk #[47,47]).data.toList).1).port) ((RS.mk (ab rst rst (0:Nat)).1 us pw hk hs hn hp port false pn pl hq q hf fg false (ay (ab rst rst (0:Nat)).1) (aj (ab rst rst (0:Nat)).2.1 (ByteArray.mk #[47,47]).data.toList).1).opq) ((RS.mk (ab rst rst (0:Nat)).1 us pw hk hs hn hp port false pn pl hq q hf fg false (ay (ab rst rst (0:Nat)).1) (aj (ab rst rst (0:Nat)).2.1 (ByteArray.mk #[47,47]).data.toList).1).pn) ((RS.mk (ab rst rst (0:Nat)).1 us pw hk hs hn hp port false pn pl hq q hf fg false (ay (ab rst rst (0:Nat)).1) (aj (ab rst rst (0:Nat)).2.1 (ByteArray.mk #[47,47]).data.toList).1).pl) ((RS.mk (ab rst rst (0:Nat)).1 us pw hk hs hn hp port false pn pl hq q hf fg false (ay (ab rst rst (0:Nat)).1) (aj (ab rst rst (0:Nat)).2.1 (ByteArray.mk #[47,47]).data.toList).1).hq) ((RS.mk (ab rst rst (0:Nat)).1 us pw hk hs hn hp port false pn pl hq q hf fg false (ay (ab rst rst (0:Nat)).1) (aj (ab rst rst (0:Nat)).2.1 (ByteArray.mk #[47,47]).data.toList).1).q) ((RS.mk (ab rst rst (0:Nat)).1 us pw hk hs hn hp port false pn pl hq q hf fg false (ay (ab rst rst (0:Nat)).1) (aj (ab rst rst (0:Nat)).2.1 (ByteArray.mk #[47,47]).data.toList).1).hf) ((RS.mk (ab rst rst (0:Nat)).1 us pw hk hs hn hp port false pn pl hq q hf fg false (ay (ab rst rst (0:Nat)).1) (aj (ab rst rst (0:Nat)).2.1 (ByteArray.mk #[47,47]).data.toList).1).fg) ((RS.mk (ab rst rst (0:Nat)).1 us pw hk hs hn hp port false pn pl hq q hf fg false (ay (ab rst rst (0:Nat)).1) (aj (ab rst rst (0:Nat)).2.1 (ByteArray.mk #[47,47]).data.toList).1).bare) ((RS.mk (ab rst rst (0:Nat)).1 us pw hk hs hn hp port false pn pl hq q hf fg false (ay (ab rst rst (0:Nat)).1) (aj (ab rst rst (0:Nat)).2.1 (ByteArray.mk #[47,47]).data.toList).1).sp) ((RS.mk (ab rst rst (0:Nat)).1 us pw hk hs hn hp port false pn pl hq q hf fg false (ay (ab rst rst (0:Nat)).1) (aj (ab rst rst (0:Nat)).2.1 (ByteArray.mk #[47,47]).data.toList).1).rst))]∧
 ((RS.mk sc us pw hk hs hn hp port false pn pl hq q hf fg bare sp rst).ao=(RS.mk (ab rst rst (0:Nat)).1 us pw hk hs hn hp port false pn pl hq q hf fg false (ay (ab rst rst (0:Nat)).1) (aj (ab rst rst (0:Nat)).2.1 (ByteArray.mk #[47,47]).data.toList).1).bX∧
 List.length (RS.mk (ab rst rst (0:Nat)).1 us pw hk hs hn hp port false pn pl hq q hf fg false (ay (ab rst rst (0:Nat)).1) (aj (ab rst rst (0:Nat)).2.1 (ByteArray.mk #[47,47]).data.toList).1).rst≤(300000:Nat)∧
 (RS.mk (ab rst rst (0:Nat)).1 us pw hk hs hn hp port false pn pl hq q hf fg false (ay (ab rst rst (0:Nat)).1) (aj (ab rst rst (0:Nat)).2.1 (ByteArray.mk #[47,47]).data.toList).1).pl.length≤(100000:Nat))∧
 A1 k sc us pw hk hs hn hp port pn pl hq q hf fg bare sp rst)∧
 ((aj (ab rst rst (0:Nat)).2.1 (ByteArray.mk #[47,47]).data.toList).2=false→
 True∧
 ((aj (aj (ab rst rst (0:Nat)).2.1 (ByteArray.mk #[47,47]).data.toList).1 (ByteArray.mk #[47]).data.toList).2=true→
 VS.mk [] [(0,PV.ptr (0:Nat) (0:Nat)),(2,PV.int .i64 (0:Int)),(3,PV.int .i64 (0:Int)),(6,PV.bool !decide ((0:Int)=(0:Int))),(10,PV.bool false),(16,PV.bool (decide ((ab rst rst (0:Nat)).1=(ByteArray.mk #[102,105,108,101]).data.toList))),(26,PV.undef),(28,PV.bool false),(51,PV.bool (ay (ab rst rst (0:Nat)).1)),(58,PV.bool (aj (ab rst rst (0:Nat)).2.1 (ByteArray.mk #[47,47]).data.toList).2),(61,PV.bool (aj (aj (ab rst rst (0:Nat)).2.1 (ByteArray.mk #[47,47]).data.toList).1 (ByteArray.mk #[47]).data.toList).2),(71,PV.undef),(77,PV.undef),(81,PV.undef),(87,PV.undef),(97,PV.undef)] [((0:Nat),bT (PV.raw (Go.Value.pointer none)) 1 ((ab rst rst (0:Nat)).1) us pw hk hs hn hp port false pn pl hq q hf fg false (ay (ab rst rst (0:Nat)).1) ((aj (aj (ab rst rst (0:Nat)).2.1 (ByteArray.mk #[47,47]).data.toList).1 (ByteArray.mk #[47]).data.toList).1))]=VS.mk [] [(0,PV.ptr (0:Nat) (0:Nat)),(2,PV.int .i64 (0:Int)),(3,PV.int .i64 (0:Int)),(6,PV.bool !decide ((0:Int)=(0:Int))),(10,PV.bool false),(16,PV.bool (decide ((ab rst rst (0:Nat)).1=(ByteArray.mk #[102,105,108,101]).data.toList))),(26,PV.undef),(28,PV.bool false),(51,PV.bool (ay (ab rst rst (0:Nat)).1)),(58,PV.bool (aj (ab rst rst (0:Nat)).2.1 (ByteArray.mk #[47,47]).data.toList).2),(61,PV.bool (aj (aj (ab rst rst (0:Nat)).2.1 (ByteArray.mk #[47,47]).data.toList).1 (ByteArray.mk #[47]).data.toList).2),(71,PV.undef),(77,PV.undef),(81,PV.undef),(87,PV.undef),(97,PV.undef)] [((0:Nat),bT (PV.raw (Go.Value.pointer none)) 1 ((RS.mk (ab rst rst (0:Nat)).1 us pw hk hs hn hp port false pn pl hq q hf fg false (ay (ab rst rst (0:Nat)).1) (aj (aj (ab rst rst (0:Nat)).2.1 (ByteArray.mk #[47,47]).data.toList).1 (ByteArray.mk #[47]).data.toList).1).sc) ((RS.mk (ab rst rst (0:Nat)).1 us pw hk hs hn hp port false pn pl hq q hf fg false (ay (ab rst rst (0:Nat)).1) (aj (aj (ab rst rst (0:Nat)).2.1 (ByteArray.mk #[47,47]).data.toList).1 (ByteArray.mk #[47]).data.toList).1).us) ((RS.mk (ab rst rst (0:Nat)).1 us pw hk hs hn hp port false pn pl hq q hf fg false (ay (ab rst rst (0:Nat)).1) (aj (aj (ab rst rst (0:Nat)).2.1 (ByteArray.mk #[47,47]).data.toList).1 (ByteArray.mk #[47]).data.toList).1).pw) ((RS.mk (ab rst rst (0:Nat)).1 us pw hk hs hn hp port false pn pl hq q hf fg false (ay (ab rst rst (0:Nat)).1) (aj (aj (ab rst rst (0:Nat)).2.1 (ByteArray.mk #[47,47]).data.toList).1 (ByteArray.mk #[47]).data.toList).1).hk) ((RS.mk (ab rst rst (0:Nat)).1 us pw hk hs hn hp port false pn pl hq q hf fg false (ay (ab rst rst (0:Nat)).1) (aj (aj (ab rst rst (0:Nat)).2.1 (ByteArray.mk #[47,47]).data.toList).1 (ByteArray.mk #[47]).data.toList).1).hs) ((RS.mk (ab rst rst (0:Nat)).1 us pw hk hs hn hp port false pn pl hq q hf fg false (ay (ab rst rst (0:Nat)).1) (aj (aj (ab rst rst (0:Nat)).2.1 (ByteArray.mk #[47,47]).data.toList).1 (ByteArray.mk #[47]).data.toList).1).hn) ((RS.mk (ab rst rst (0:Nat)).1 us pw hk hs hn hp port false pn pl hq q hf fg false (ay (ab rst rst (0:Nat)).1) (aj (aj (ab rst rst (0:Nat)).2.1 (ByteArray.mk #[47,47]).data.toList).1 (ByteArray.mk #[47]).data.toList).1).hp) ((RS.mk (ab rst rst (0:Nat)).1 us pw hk hs hn hp port false pn pl hq q hf fg false (ay (ab rst rst (0:Nat)).1) (aj (aj (ab rst rst (0:Nat)).2.1 (ByteArray.mk #[47,47]).data.toList).1 (ByteArray.mk #[47]).data.toList).1).port) ((RS.mk (ab rst rst (0:Nat)).1 us pw hk hs hn hp port false pn pl hq q hf fg false (ay (ab rst rst (0:Nat)).1) (aj (aj (ab rst rst (0:Nat)).2.1 (ByteArray.mk #[47,47]).data.toList).1 (ByteArray.mk #[47]).data.toList).1).opq) ((RS.mk (ab rst rst (0:Nat)).1 us pw hk hs hn hp port false pn pl hq q hf fg false (ay (ab rst rst (0:Nat)).1) (aj (aj (ab rst rst (0:Nat)).2.1 (ByteArray.mk #[47,47]).data.toList).1 (ByteArray.mk #[47]).data.toList).1).pn) ((RS.mk (ab rst rst (0:Nat)).1 us pw hk hs hn hp port false pn pl hq q hf fg false (ay (ab rst rst (0:Nat)).1) (aj (aj (ab rst rst (0:Nat)).2.1 (ByteArray.mk #[47,47]).data.toList).1 (ByteArray.mk #[47]).data.toList).1).pl) ((RS.mk (ab rst rst (0:Nat)).1 us pw hk hs hn hp port false pn pl hq q hf fg false (ay (ab rst rst (0:Nat)).1) (aj (aj (ab rst rst (0:Nat)).2.1 (ByteArray.mk #[47,47]).data.toList).1 (ByteArray.mk #[47]).data.toList).1).hq) ((RS.mk (ab rst rst (0:Nat)).1 us pw hk hs hn hp port false pn pl hq q hf fg false (ay (ab rst rst (0:Nat)).1) (aj (aj (ab rst rst (0:Nat)).2.1 (ByteArray.mk #[47,47]).data.toList).1 (ByteArray.mk #[47]).data.toList).1).q) ((RS.mk (ab rst rst (0:Nat)).1 us pw hk hs hn hp port false pn pl hq q hf fg false (ay (ab rst rst (0:Nat)).1) (aj (aj (ab rst rst (0:Nat)).2.1 (ByteArray.mk #[47,47]).data.toList).1 (ByteArray.mk #[47]).data.toList).1).hf) ((RS.mk (ab rst rst (0:Nat)).1 us pw hk hs hn hp port false pn pl hq q hf fg false (ay (ab rst rst (0:Nat)).1) (aj (aj (ab rst rst (0:Nat)).2.1 (ByteArray.mk #[47,47]).data.toList).1 (ByteArray.mk #[47]).data.toList).1).fg) ((RS.mk (ab rst rst (0:Nat)).1 us pw hk hs hn hp port false pn pl hq q hf fg false (ay (ab rst rst (0:Nat)).1) (aj (aj (ab rst rst (0:Nat)).2.1 (ByteArray.mk #[47,47]).data.toList).1 (ByteArray.mk #[47]).data.toList).1).bare) ((RS.mk (ab rst rst (0:Nat)).1 us pw hk hs hn hp port false pn pl hq q hf fg false (ay (ab rst rst (0:Nat)).1) (aj (aj (ab rst rst (0:Nat)).2.1 (ByteArray.mk #[47,47]).data.toList).1 (ByteArray.mk #[47]).data.toList).1).sp) ((RS.mk (ab rst rst (0:Nat)).1 us pw hk hs hn hp port false pn pl hq q hf fg false (ay (ab rst rst (0:Nat)).1) (aj (aj (ab rst rst (0:Nat)).2.1 (ByteArray.mk #[47,47]).data.toList).1 (ByteArray.mk #[47]).data.toList).1).rst))]∧
 ((RS.mk sc us pw hk hs hn hp port false pn pl hq q hf fg bare sp rst).ao=((RS.mk (ab rst rst (0:Nat)).1 us pw hk hs hn hp port false pn pl hq q hf fg false (ay (ab rst rst (0:Nat)).1) (aj (aj (ab rst rst (0:Nat)).2.1 (ByteArray.mk #[47,47]).data.toList).1 (ByteArray.mk #[47]).data.toList).1).path.tail,(0:Int))∧
 List.length (RS.mk (ab rst rst (0:Nat)).1 us pw hk hs hn hp port false pn pl hq q hf fg false (ay (ab rst rst (0:Nat)).1) (aj (aj (ab rst rst (0:Nat)).2.1 (ByteArray.mk #[47,47]).data.toList).1 (ByteArray.mk #[47]).data.toList).1).rst≤(300000:Nat)∧
 (RS.mk (ab rst rst (0:Nat)).1 us pw hk hs hn hp port false pn pl hq q hf fg false (ay (ab rst rst (0:Nat)).1) (aj (aj (ab rst rst (0:Nat)).2.1 (ByteArray.mk #[47,47]).data.toList).1 (ByteArray.mk #[47]).data.toList).1).pl.length≤(100000:Nat))∧
 Jz k sc us pw hk hs hn hp port pn pl hq q hf fg bare sp rst)∧
 ((aj (aj (ab rst rst (0:Nat)).2.1 (ByteArray.mk #[47,47]).data.toList).1 (ByteArray.mk #[47]).data.toList).2=false→
 (List.length (aj (aj (ab rst rst (0:Nat)).2.1 (ByteArray.mk #[47,47]).data.toList).1 (ByteArray.mk #[47]).data.toList).1).le (300000:Nat)∧
 (aa (aj (aj (ab rst rst (0:Nat)).2.1 (ByteArray.mk #[47,47]).data.toList).1 (ByteArray.mk #[47]).data.toList).1 ↑(aF (aj (aj (ab rst rst (0:Nat)).2.1 (ByteArray.mk #[47,47]).data.toList).1 (ByteArray.mk #[47]).data.toList).1)).length.le (300000:Nat)∧
 (List.length (bK (aa (aj (aj (ab rst rst (0:Nat)).2.1 (ByteArray.mk #[47,47]).data.toList).1 (ByteArray.mk #[47]).data.toList).1 ↑(aF (aj (aj (ab rst rst (0:Nat)).2.1 (ByteArray.mk #[47,47]).data.toList).1 (ByteArray.mk #[47]).data.toList).1)))).le (300000:Nat)∧
 k (PV.int .i64 (0:Int)) [bT (PV.raw (Go.Value.pointer none)) 0 ((ab rst rst (0:Nat)).1) us pw hk hs hn hp port true false ([lB (ae (aj (aj (ab rst rst (0:Nat)).2.1 (ByteArray.mk #[47,47]).data.toList).1 (ByteArray.mk #[47]).data.toList).1 ↑(aF (aj (aj (ab rst rst (0:Nat)).2.1 (ByteArray.mk #[47,47]).data.toList).1 (ByteArray.mk #[47]).data.toList).1)) (aa (aj (aj (ab rst rst (0:Nat)).2.1 (ByteArray.mk #[47,47]).data.toList).1 (ByteArray.mk #[47]).data.toList).1 ↑(aF (aj (aj (ab rst rst (0:Nat)).2.1 (ByteArray.mk #[47,47]).data.toList).1 (ByteArray.mk #[47]).data.toList).1))]) (ee (aa (aj (aj (ab rst rst (0:Nat)).2.1 (ByteArray.mk #[47,47]).data.toList).1 (ByteArray.mk #[47]).data.toList).1 ↑(aF (aj (aj (ab rst rst (0:Nat)).2.1 (ByteArray.mk #[47,47]).data.toList).1 (ByteArray.mk #[47]).data.toList).1)) hq) (eh (ay (ab rst rst (0:Nat)).1) (aa (aj (aj (ab rst rst (0:Nat)).2.1 (ByteArray.mk #[47,47]).data.toList).1 (ByteArray.mk #[47]).data.toList).1 ↑(aF (aj (aj (ab rst rst (0:Nat)).2.1 (ByteArray.mk #[47,47]).data.toList).1 (ByteArray.mk #[47]).data.toList).1)) q) (ei (bK (aa (aj (aj (ab rst rst (0:Nat)).2.1 (ByteArray.mk #[47,47]).data.toList).1 (ByteArray.mk #[47]).data.toList).1 ↑(aF (aj (aj (ab rst rst (0:Nat)).2.1 (ByteArray.mk #[47,47]).data.toList).1 (ByteArray.mk #[47]).data.toList).1))) hf) (ej (bK (aa (aj (aj (ab rst rst (0:Nat)).2.1 (ByteArray.mk #[47,47]).data.toList).1 (ByteArray.mk #[47]).data.toList).1 ↑(aF (aj (aj (ab rst rst (0:Nat)).2.1 (ByteArray.mk #[47,47]).data.toList).1 (ByteArray.mk #[47]).data.toList).1))) fg) false (ay (ab rst rst (0:Nat)).1) (en (bK (aa (aj (aj (ab rst rst (0:Nat)).2.1 (ByteArray.mk #[47,47]).data.toList).1 (ByteArray.mk #[47]).data.toList).1 ↑(aF (aj (aj (ab rst rst (0:Nat)).2.1 (ByteArray.mk #[47,47]).data.toList).1 (ByteArray.mk #[47]).data.toList).1))))])))))∧
 (ay (ab rst rst (0:Nat)).1=!true→
 (false=false→
 false=true→
 True)∧
 (false=true→
 VS.mk [] [(0,PV.ptr (0:Nat) (0:Nat)),(2,PV.int .i64 (0:Int)),(3,PV.int .i64 (0:Int)),(6,PV.bool !decide ((0:Int)=(0:Int))),(10,PV.bool false),(16,PV.bool (decide ((ab rst rst (0:Nat)).1=(ByteArray.mk #[102,105,108,101]).data.toList))),(26,PV.undef),(28,PV.bool false),(51,PV.undef),(58,PV.undef),(61,PV.undef),(71,PV.undef),(77,PV.undef),(81,PV.undef),(87,PV.undef),(97,PV.undef)] [((0:Nat),bT (PV.raw (Go.Value.pointer none)) 1 ((ab rst rst (0:Nat)).1) us pw hk hs hn hp port false pn pl hq q hf fg false (ay (ab rst rst (0:Nat)).1) ((ab rst rst (0:Nat)).2.1))]=VS.mk [] [] []∧
 False∧
 ∀(x:RS),False→
 False)∧
 (false=false→
 (ay (ab rst rst (0:Nat)).1=true→
 (List.length (ab rst rst (0:Nat)).2.1).le (300000:Nat)∧
 VS.mk [] [(0,PV.ptr (0:Nat) (0:Nat)),(2,PV.int .i64 (0:Int)),(3,PV.int .i64 (0:Int)),(6,PV.bool !decide ((0:Int)=(0:Int))),(10,PV.bool false),(16,PV.bool (decide ((ab rst rst (0:Nat)).1=(ByteArray.mk #[102,105,108,101]).data.toList))),(26,PV.undef),(28,PV.bool false),(51,PV.bool (ay (ab rst rst (0:Nat)).1)),(58,PV.undef),(61,PV.undef),(71,PV.undef),(77,PV.undef),(81,PV.undef),(87,PV.undef),(97,PV.undef)] [((0:Nat),bT (PV.raw (Go.Value.pointer none)) 1 ((ab rst rst (0:Nat)).1) us pw hk hs hn hp port false pn pl hq q hf fg false (ay (ab rst rst (0:Nat)).1) (aC (List.length (ab rst rst (0:Nat)).2.1) (ay (ab rst rst (0:Nat)).1) (0:Int) (ab rst rst (0:Nat)).2.1))]=VS.mk [] [(0,PV.ptr (0:Nat) (0:Nat)),(2,PV.int .i64 (0:Int)),(3,PV.int .i64 (0:Int)),(6,PV.bool !decide ((0:Int)=(0:Int))),(10,PV.bool false),(16,PV.bool (decide ((ab rst rst (0:Nat)).1=(ByteArray.mk #[102,105,108,101]).data.toList))),(26,PV.undef),(28,PV.bool false),(51,PV.bool (ay (ab rst rst (0:Nat)).1)),(58,PV.undef),(61,PV.undef),(71,PV.undef),(77,PV.undef),(81,PV.undef),(87,PV.undef),(97,PV.undef)] [((0:Nat),bT (PV.raw (Go.Value.pointer none)) 1 ((RS.mk (ab rst rst (0:Nat)).1 us pw hk hs hn hp port false pn pl hq q hf fg false (ay (ab rst rst (0:Nat)).1) (aC (List.length (ab rst rst (0:Nat)).2.1) (ay (ab rst rst (0:Nat)).1) (0:Int) (ab rst rst (0:Nat)).2.1)).sc) ((RS.mk (ab rst rst (0:Nat)).1 us pw hk hs hn hp port false pn pl hq q hf fg false (ay (ab rst rst (0:Nat)).1) (aC (List.length (ab rst rst (0:Nat)).2.1) (ay (ab rst rst (0:Nat)).1) (0:Int) (ab rst rst (0:Nat)).2.1)).us) ((RS.mk (ab rst rst (0:Nat)).1 us pw hk hs hn hp port false pn pl hq q hf fg false (ay (ab rst rst (0:Nat)).1) (aC (List.length (ab rst rst (0:Nat)).2.1) (ay (ab rst rst (0:Nat)).1) (0:Int) (ab rst rst (0:Nat)).2.1)).pw) ((RS.mk (ab rst rst (0:Nat)).1 us pw hk hs hn hp port false pn pl hq q hf fg false (ay (ab rst rst (0:Nat)).1) (aC (List.length (ab rst rst (0:Nat)).2.1) (ay (ab rst rst (0:Nat)).1) (0:Int) (ab rst rst (0:Nat)).2.1)).hk) ((RS.mk (ab rst rst (0:Nat)).1 us pw hk hs hn hp port false pn pl hq q hf fg false (ay (ab rst rst (0:Nat)).1) (aC (List.length (ab rst rst (0:Nat)).2.1) (ay (ab rst rst (0:Nat)).1) (0:Int) (ab rst rst (0:Nat)).2.1)).hs) ((RS.mk (ab rst rst (0:Nat)).1 us pw hk hs hn hp port false pn pl hq q hf fg false (ay (ab rst rst (0:Nat)).1) (aC (List.length (ab rst rst (0:Nat)).2.1) (ay (ab rst rst (0:Nat)).1) (0:Int) (ab rst rst (0:Nat)).2.1)).hn) ((RS.mk (ab rst rst (0:Nat)).1 us pw hk hs hn hp port false pn pl hq q hf fg false (ay (ab rst rst (0:Nat)).1) (aC (List.length (ab rst rst (0:Nat)).2.1) (ay (ab rst rst (0:Nat)).1) (0:Int) (ab rst rst (0:Nat)).2.1)).hp) ((RS.mk (ab rst rst (0:Nat)).1 us pw hk hs hn hp port false pn pl hq q hf fg false (ay (ab rst rst (0:Nat)).1) (aC (List.length (ab rst rst (0:Nat)).2.1) (ay (ab rst rst (0:Nat)).1) (0:Int) (ab rst rst (0:Nat)).2.1)).port) ((RS.mk (ab rst rst (0:Nat)).1 us pw hk hs hn hp port false pn pl hq q hf fg false (ay (ab rst rst (0:Nat)).1) (aC (List.length (ab rst rst (0:Nat)).2.1) (ay (ab rst rst (0:Nat)).1) (0:Int) (ab rst rst (0:Nat)).2.1)).opq) ((RS.mk (ab rst rst (0:Nat)).1 us pw hk hs hn hp port false pn pl hq q hf fg false (ay (ab rst rst (0:Nat)).1) (aC (List.length (ab rst rst (0:Nat)).2.1) (ay (ab rst rst (0:Nat)).1) (0:Int) (ab rst rst (0:Nat)).2.1)).pn) ((RS.mk (ab rst rst (0:Nat)).1 us pw hk hs hn hp port false pn pl hq q hf fg false (ay (ab rst rst (0:Nat)).1) (aC (List.length (ab rst rst (0:Nat)).2.1) (ay (ab rst rst (0:Nat)).1) (0:Int) (ab rst rst (0:Nat)).2.1)).pl) ((RS.mk (ab rst rst (0:Nat)).1 us pw hk hs hn hp port false pn pl hq q hf fg false (ay (ab rst rst (0:Nat)).1) (aC (List.length (ab rst rst (0:Nat)).2.1) (ay (ab rst rst (0:Nat)).1) (0:Int) (ab rst rst (0:Nat)).2.1)).hq) ((RS.mk (ab rst rst (0:Nat)).1 us pw hk hs hn hp port false pn pl hq q hf fg false (ay (ab rst rst (0:Nat)).1) (aC (List.length (ab rst rst (0:Nat)).2.1) (ay (ab rst rst (0:Nat)).1) (0:Int) (ab rst rst (0:Nat)).2.1)).q) ((RS.mk (ab rst rst (0:Nat)).1 us pw hk hs hn hp port false pn pl hq q hf fg false (ay (ab rst rst (0:Nat)).1) (aC (List.length (ab rst rst (0:Nat)).2.1) (ay (ab rst rst (0:Nat)).1) (0:Int) (ab rst rst (0:Nat)).2.1)).hf) ((RS.mk (ab rst rst (0:Nat)).1 us pw hk hs hn hp port false pn pl hq q hf fg false (ay (ab rst rst (0:Nat)).1) (aC (List.length (ab rst rst (0:Nat)).2.1) (ay (ab rst rst (0:Nat)).1) (0:Int) (ab rst rst (0:Nat)).2.1)).fg) ((RS.mk (ab rst rst (0:Nat)).1 us pw hk hs hn hp port false pn pl hq q hf fg false (ay (ab rst rst (0:Nat)).1) (aC (List.length (ab rst rst (0:Nat)).2.1) (ay (ab rst rst (0:Nat)).1) (0:Int) (ab rst rst (0:Nat)).2.1)).bare) ((RS.mk (ab rst rst (0:Nat)).1 us pw hk hs hn hp port false pn pl hq q hf fg false (ay (ab rst rst (0:Nat)).1) (aC (List.length (ab rst rst (0:Nat)).2.1) (ay (ab rst rst (0:Nat)).1) (0:Int) (ab rst rst (0:Nat)).2.1)).sp) ((RS.mk (ab rst rst (0:Nat)).1 us pw hk hs hn hp port false pn pl hq q hf fg false (ay (ab rst rst (0:Nat)).1) (aC (List.length (ab rst rst (0:Nat)).2.1) (ay (ab rst rst (0:Nat)).1) (0:Int) (ab rst rst (0:Nat)).2.1)).rst))]∧
 ((RS.mk sc us pw hk hs hn hp port false pn pl hq q hf fg bare sp rst).ao=(RS.mk (ab rst rst (0:Nat)).1 us pw hk hs hn hp port false pn pl hq q hf fg false (ay (ab rst rst (0:Nat)).1) (aC (List.length (ab rst rst (0:Nat)).2.1) (ay (ab rst rst (0:Nat)).1) (0:Int) (ab rst rst (0:Nat)).2.1)).bX∧
 List.length (RS.mk (ab rst rst (0:Nat)).1 us pw hk hs hn hp port false pn pl hq q hf fg false (ay (ab rst rst (0:Nat)).1) (aC (List.length (ab rst rst (0:Nat)).2.1) (ay (ab rst rst (0:Nat)).1) (0:Int) (ab rst rst (0:Nat)).2.1)).rst≤(300000:Nat)∧
 (RS.mk (ab rst rst (0:Nat)).1 us pw hk hs hn hp port false pn pl hq q hf fg false (ay (ab rst rst (0:Nat)).1) (aC (List.length (ab rst rst (0:Nat)).2.1) (ay (ab rst rst (0:Nat)).1) (0:Int) (ab rst rst (0:Nat)).2.1)).pl.length≤(100000:Nat))∧
 A1 k sc us pw hk hs hn hp port pn pl hq q hf fg bare sp rst)∧
 (ay (ab rst rst (0:Nat)).1=false→
 True∧
 ((aj (ab rst rst (0:Nat)).2.1 (ByteArray.mk #[47,47]).data.toList).2=true→
 VS.mk [] [(0,PV.ptr (0:Nat) (0:Nat)),(2,PV.int .i64 (0:Int)),(3,PV.int .i64 (0:Int)),(6,PV.bool !decide ((0:Int)=(0:Int))),(10,PV.bool false),(16,PV.bool (decide ((ab rst rst (0:Nat)).1=(ByteArray.mk #[102,105,108,101]).data.toList))),(26,PV.undef),(28,PV.bool false),(51,PV.bool (ay (ab rst rst (0:Nat)).1)),(58,PV.bool (aj (ab rst rst (0:Nat)).2.1 (ByteArray.mk #[47,47]).data.toList).2),(61,PV.undef),(71,PV.undef),(77,PV.undef),(81,PV.undef),(87,PV.undef),(97,PV.undef)] [((0:Nat),bT (PV.raw (Go.Value.pointer none)) 1 ((ab rst rst (0:Nat)).1) us pw hk hs hn hp port false pn pl hq q hf fg false (ay (ab rst rst (0:Nat)).1) ((aj (ab rst rst (0:Nat)).2.1 (ByteArray.mk #[47,47]).data.toList).1))]=VS.mk [] [(0,PV.ptr (0:Nat) (0:Nat)),(2,PV.int .i64 (0:Int)),(3,PV.int .i64 (0:Int)),(6,PV.bool !decide ((0:Int)=(0:Int))),(10,PV.bool false),(16,PV.bool (decide ((ab rst rst (0:Nat)).1=(ByteArray.mk #[102,105,108,101]).data.toList))),(26,PV.undef),(28,PV.bool false),(51,PV.bool (ay (ab rst rst (0:Nat)).1)),(58,PV.bool (aj (ab rst rst (0:Nat)).2.1 (ByteArray.mk #[47,47]).data.toList).2),(61,PV.undef),(71,PV.undef),(77,PV.undef),(81,PV.undef),(87,PV.undef),(97,PV.undef)] [((0:Nat),bT (PV.raw (Go.Value.pointer none)) 1 ((RS.mk (ab rst rst (0:Nat)).1 us pw hk hs hn hp port false pn pl hq q hf fg false (ay (ab rst rst (0:Nat)).1) (aj (ab rst rst (0:Nat)).2.1 (ByteArray.mk #[47,47]).data.toList).1).sc) ((RS.mk (ab rst rst (0:Nat)).1 us pw hk hs hn hp port false pn pl hq q hf fg false (ay (ab rst rst (0:Nat)).1) (aj (ab rst rst (0:Nat)).2.1 (ByteArray.mk #[47,47]).data.toList).1).us) ((RS.mk (ab rst rst (0:Nat)).1 us pw hk hs hn hp port false pn pl hq q hf fg false (ay (ab rst rst (0:Nat)).1) (aj (ab rst rst (0:Nat)).2.1 (ByteArray.mk #[47,47]).data.toList).1).pw) ((RS.mk (ab rst rst (0:Nat)).1 us pw hk hs hn hp port false pn pl hq q hf fg false (ay (ab rst rst (0:Nat)).1) (aj (ab rst rst (0:Nat)).2.1 (ByteArray.mk #[47,47]).data.toList).1).hk) ((RS.mk (ab rst rst (0:Nat)).1 us pw hk hs hn hp port false pn pl hq q hf fg false (ay (ab rst rst (0:Nat)).1) (aj (ab rst rst (0:Nat)).2.1 (ByteArray.mk #[47,47]).data.toList).1).hs) ((RS.mk (ab rst rst (0:Nat)).1 us pw hk hs hn hp port false pn pl hq q hf fg false (ay (ab rst rst (0:Nat)).1) (aj (ab rst rst (0:Nat)).2.1 (ByteArray.mk #[47,47]).data.toList).1).hn) ((RS.mk (ab rst rst (0:Nat)).1 us pw hk hs hn hp port false pn pl hq q hf fg false (ay (ab rst rst (0:Nat)).1) (aj (ab rst rst (0:Nat)).2.1 (ByteArray.mk #[47,47]).data.toList).1).hp) ((RS.mk (ab rst rst (0:Nat)).1 us pw hk hs hn hp port false pn pl hq q hf fg false (ay (ab rst rst (0:Nat)).1) (aj (ab rst rst (0:Nat)).2.1 (ByteArray.mk #[47,47]).data.toList).1).port) ((RS.mk (ab rst rst (0:Nat)).1 us pw hk hs hn hp port false pn pl hq q hf fg false (ay (ab rst rst (0:Nat)).1) (aj (ab rst rst (0:Nat)).2.1 (ByteArray.mk #[47,47]).data.toList).1).opq) ((RS.mk (ab rst rst (0:Nat)).1 us pw hk hs hn hp port false pn pl hq q hf fg false (ay (ab rst rst (0:Nat)).1) (aj (ab rst rst (0:Nat)).2.1 (ByteArray.mk #[47,47]).data.toList).1).pn) ((RS.mk (ab rst rst (0:Nat)).1 us pw hk hs hn hp port false pn pl hq q hf fg false (ay (ab rst rst (0:Nat)).1) (aj (ab rst rst (0:Nat)).2.1 (ByteArray.mk #[47,47]).data.toList).1).pl) ((RS.mk (ab rst rst (0:Nat)).1 us pw hk hs hn hp port false pn pl hq q hf fg false (ay (ab rst rst (0:Nat)).1) (aj (ab rst rst (0:Nat)).2.1 (ByteArray.mk #[47,47]).data.toList).1).hq) ((RS.mk (ab rst rst (0:Nat)).1 us pw hk hs hn hp port false pn pl hq q hf fg false (ay (ab rst rst (0:Nat)).1) (aj (ab rst rst (0:Nat)).2.1 (ByteArray.mk #[47,47]).data.toList).1).q) ((RS.mk (ab rst rst (0:Nat)).1 us pw hk hs hn hp port false pn pl hq q hf fg false (ay (ab rst rst (0:Nat)).1) (aj (ab rst rst (0:Nat)).2.1 (ByteArray.mk #[47,47]).data.toList).1).hf) ((RS.mk (ab rst rst (0:Nat)).1 us pw hk hs hn hp port false pn pl hq q hf fg false (ay (ab rst rst (0:Nat)).1) (aj (ab rst rst (0:Nat)).2.1 (ByteArray.mk #[47,47]).data.toList).1).fg) ((RS.mk (ab rst rst (0:Nat)).1 us pw hk hs hn hp port false pn pl hq q hf fg false (ay (ab rst rst (0:Nat)).1) (aj (ab rst rst (0:Nat)).2.1 (ByteArray.mk #[47,47]).data.toList).1).bare) ((RS.mk (ab rst rst (0:Nat)).1 us pw hk hs hn hp port false pn pl hq q hf fg false (ay (ab rst rst (0:Nat)).1) (aj (ab rst rst (0:Nat)).2.1 (ByteArray.mk #[47,47]).data.toList).1).sp) ((RS.mk (ab rst rst (0:Nat)).1 us pw hk hs hn hp port false pn pl hq q hf fg false (ay (ab rst rst (0:Nat)).1) (aj (ab rst rst (0:Nat)).2.1 (ByteArray.mk #[47,47]).data.toList).1).rst))]∧
 ((RS.mk sc us pw hk hs hn hp port false pn pl hq q hf fg bare sp rst).ao=(RS.mk (ab rst rst (0:Nat)).1 us pw hk hs hn hp port false pn pl hq q hf fg false (ay (ab rst rst (0:Nat)).1) (aj (ab rst rst (0:Nat)).2.1 (ByteArray.mk #[47,47]).data.toList).1).bX∧
 List.length (RS.mk (ab rst rst (0:Nat)).1 us pw hk hs hn hp port false pn pl hq q hf fg false (ay (ab rst rst (0:Nat)).1) (aj (ab rst rst (0:Nat)).2.1 (ByteArray.mk #[47,47]).data.toList).1).rst≤(300000:Nat)∧
 (RS.mk (ab rst rst (0:Nat)).1 us pw hk hs hn hp port false pn pl hq q hf fg false (ay (ab rst rst (0:Nat)).1) (aj (ab rst rst (0:Nat)).2.1 (ByteArray.mk #[47,47]).data.toList).1).pl.length≤(100000:Nat))∧
 A1 k sc us pw hk hs hn hp port pn pl hq q hf fg bare sp rst)∧
 ((aj (ab rst rst (0:Nat)).2.1 (ByteArray.mk #[47,47]).data.toList).2=false→
 True∧
 ((aj (aj (ab rst rst (0:Nat)).2.1 (ByteArray.mk #[47,47]).data.toList).1 (ByteArray.mk #[47]).data.toList).2=true→
 VS.mk [] [(0,PV.ptr (0:Nat) (0:Nat)),(2,PV.int .i64 (0:Int)),(3,PV.int .i64 (0:Int)),(6,PV.bool !decide ((0:Int)=(0:Int))),(10,PV.bool false),(16,PV.bool (decide ((ab rst rst (0:Nat)).1=(ByteArray.mk #[102,105,108,101]).data.toList))),(26,PV.undef),(28,PV.bool false),(51,PV.bool (ay (ab rst rst (0:Nat)).1)),(58,PV.bool (aj (ab rst rst (0:Nat)).2.1 (ByteArray.mk #[47,47]).data.toList).2),(61,PV.bool (aj (aj (ab rst rst (0:Nat)).2.1 (ByteArray.mk #[47,47]).data.toList).1 (ByteArray.mk #[47]).data.toList).2),(71,PV.undef),(77,PV.undef),(81,PV.undef),(87,PV.undef),(97,PV.undef)] [((0:Nat),bT (PV.raw (Go.Value.pointer none)) 1 ((ab rst rst (0:Nat)).1) us pw hk hs hn hp port false pn pl hq q hf fg false (ay (ab rst rst (0:Nat)).1) ((aj (aj (ab rst rst (0:Nat)).2.1 (ByteArray.mk #[47,47]).data.toList).1 (ByteArray.mk #[47]).data.toList).1))]=VS.mk [] [(0,PV.ptr (0:Nat) (0:Nat)),(2,PV.int .i64 (0:Int)),(3,PV.int .i64 (0:Int)),(6,PV.bool !decide ((0:Int)=(0:Int))),(10,PV.bool false),(16,PV.bool (decide ((ab rst rst (0:Nat)).1=(ByteArray.mk #[102,105,108,101]).data.toList))),(26,PV.undef),(28,PV.bool false),(51,PV.bool (ay (ab rst rst (0:Nat)).1)),(58,PV.bool (aj (ab rst rst (0:Nat)).2.1 (ByteArray.mk #[47,47]).data.toList).2),(61,PV.bool (aj (aj (ab rst rst (0:Nat)).2.1 (ByteArray.mk #[47,47]).data.toList).1 (ByteArray.mk #[47]).data.toList).2),(71,PV.undef),(77,PV.undef),(81,PV.undef),(87,PV.undef),(97,PV.undef)] [((0:Nat),bT (PV.raw (Go.Value.pointer none)) 1 ((RS.mk (ab rst rst (0:Nat)).1 us pw hk hs hn hp port false pn pl hq q hf fg false (ay (ab rst rst (0:Nat)).1) (aj (aj (ab rst rst (0:Nat)).2.1 (ByteArray.mk #[47,47]).data.toList).1 (ByteArray.mk #[47]).data.toList).1).sc) ((RS.mk (ab rst rst (0:Nat)).1 us pw hk hs hn hp port false pn pl hq q hf fg false (ay (ab rst rst (0:Nat)).1) (aj (aj (ab rst rst (0:Nat)).2.1 (ByteArray.mk #[47,47]).data.toList).1 (ByteArray.mk #[47]).data.toList).1).us) ((RS.mk (ab rst rst (0:Nat)).1 us pw hk hs hn hp port false pn pl hq q hf fg false (ay (ab rst rst (0:Nat)).1) (aj (aj (ab rst rst (0:Nat)).2.1 (ByteArray.mk #[47,47]).data.toList).1 (ByteArray.mk #[47]).data.toList).1).pw) ((RS.mk (ab rst rst (0:Nat)).1 us pw hk hs hn hp port false pn pl hq q hf fg false (ay (ab rst rst (0:Nat)).1) (aj (aj (ab rst rst (0:Nat)).2.1 (ByteArray.mk #[47,47]).data.toList).1 (ByteArray.mk #[47]).data.toList).1).hk) ((RS.mk (ab rst rst (0:Nat)).1 us pw hk hs hn hp port false pn pl hq q hf fg false (ay (ab rst rst (0:Nat)).1) (aj (aj (ab rst rst (0:Nat)).2.1 (ByteArray.mk #[47,47]).data.toList).1 (ByteArray.mk #[47]).data.toList).1).hs) ((RS.mk (ab rst rst (0:Nat)).1 us pw hk hs hn hp port false pn pl hq q hf fg false (ay (ab rst rst (0:Nat)).1) (aj (aj (ab rst rst (0:Nat)).2.1 (ByteArray.mk #[47,47]).data.toList).1 (ByteArray.mk #[47]).data.toList).1).hn) ((RS.mk (ab rst rst (0:Nat)).1 us pw hk hs hn hp port false pn pl hq q hf fg false (ay (ab rst rst (0:Nat)).1) (aj (aj (ab rst rst (0:Nat)).2.1 (ByteArray.mk #[47,47]).data.toList).1 (ByteArray.mk #[47]).data.toList).1).hp) ((RS.mk (ab rst rst (0:Nat)).1 us pw hk hs hn hp port false pn pl hq q hf fg false (ay (ab rst rst (0:Nat)).1) (aj (aj (ab rst rst (0:Nat)).2.1 (ByteArray.mk #[47,47]).data.toList).1 (ByteArray.mk #[47]).data.toList).1).port) ((RS.mk (ab rst rst (0:Nat)).1 us pw hk hs hn hp port false pn pl hq q hf fg false (ay (ab rst rst (0:Nat)).1) (aj (aj (ab rst rst (0:Nat)).2.1 (ByteArray.mk #[47,47]).data.toList).1 (ByteArray.mk #[47]).data.toList).1).opq) ((RS.mk (ab rst rst (0:Nat)).1 us pw hk hs hn hp port false pn pl hq q hf fg false (ay (ab rst rst (0:Nat)).1) (aj (aj (ab rst rst (0:Nat)).2.1 (ByteArray.mk #[47,47]).data.toList).1 (ByteArray.mk #[47]).data.toList).1).pn) ((RS.mk (ab rst rst (0:Nat)).1 us pw hk hs hn hp port false pn pl hq q hf fg false (ay (ab rst rst (0:Nat)).1) (aj (aj (ab rst rst (0:Nat)).2.1 (ByteArray.mk #[47,47]).data.toList).1 (ByteArray.mk #[47]).data.toList).1).pl) ((RS.mk (ab rst rst (0:Nat)).1 us pw hk hs hn hp port false pn pl hq q hf fg false (ay (ab rst rst (0:Nat)).1) (aj (aj (ab rst rst (0:Nat)).2.1 (ByteArray.mk #[47,47]).data.toList).1 (ByteArray.mk #[47]).data.toList).1).hq) ((RS.mk (ab rst rst (0:Nat)).1 us pw hk hs hn hp port false pn pl hq q hf fg false (ay (ab rst rst (0:Nat)).1) (aj (aj (ab rst rst (0:Nat)).2.1 (ByteArray.mk #[47,47]).data.toList).1 (ByteArray.mk #[47]).data.toList).1).q) ((RS.mk (ab rst rst (0:Nat)).1 us pw hk hs hn hp port false pn pl hq q hf fg false (ay (ab rst rst (0:Nat)).1) (aj (aj (ab rst rst (0:Nat)).2.1 (ByteArray.mk #[47,47]).data.toList).1 (ByteArray.mk #[47]).data.toList).1).hf) ((RS.mk (ab rst rst (0:Nat)).1 us pw hk hs hn hp port false pn pl hq q hf fg false (ay (ab rst rst (0:Nat)).1) (aj (aj (ab rst rst (0:Nat)).2.1 (ByteArray.mk #[47,47]).data.toList).1 (ByteArray.mk #[47]).data.toList).1).fg) ((RS.mk (ab rst rst (0:Nat)).1 us pw hk hs hn hp port false pn pl hq q hf fg false (ay (ab rst rst (0:Nat)).1) (aj (aj (ab rst rst (0:Nat)).2.1 (ByteArray.mk #[47,47]).data.toList).1 (ByteArray.mk #[47]).data.toList).1).bare) ((RS.mk (ab rst rst (0:Nat)).1 us pw hk hs hn hp port false pn pl hq q hf fg false (ay (ab rst rst (0:Nat)).1) (aj (aj (ab rst rst (0:Nat)).2.1 (ByteArray.mk #[47,47]).data.toList).1 (ByteArray.mk #[47]).data.toList).1).sp) ((RS.mk (ab rst rst (0:Nat)).1 us pw hk hs hn hp port false pn pl hq q hf fg false (ay (ab rst rst (0:Nat)).1) (aj (aj (ab rst rst (0:Nat)).2.1 (ByteArray.mk #[47,47]).data.toList).1 (ByteArray.mk #[47]).data.toList).1).rst))]∧
 ((RS.mk sc us pw hk hs hn hp port false pn pl hq q hf fg bare sp rst).ao=((RS.mk (ab rst rst (0:Nat)).1 us pw hk hs hn hp port false pn pl hq q hf fg false (ay (ab rst rst (0:Nat)).1) (aj (aj (ab rst rst (0:Nat)).2.1 (ByteArray.mk #[47,47]).data.toList).1 (ByteArray.mk #[47]).data.toList).1).path.tail,(0:Int))∧
 List.length (RS.mk (ab rst rst (0:Nat)).1 us pw hk hs hn hp port false pn pl hq q hf fg false (ay (ab rst rst (0:Nat)).1) (aj (aj (ab rst rst (0:Nat)).2.1 (ByteArray.mk #[47,47]).data.toList).1 (ByteArray.mk #[47]).data.toList).1).rst≤(300000:Nat)∧
 (RS.mk (ab rst rst (0:Nat)).1 us pw hk hs hn hp port false pn pl hq q hf fg false (ay (ab rst rst (0:Nat)).1) (aj (aj (ab rst rst (0:Nat)).2.1 (ByteArray.mk #[47,47]).data.toList).1 (ByteArray.mk #[47]).data.toList).1).pl.length≤(100000:Nat))∧
 Jz k sc us pw hk hs hn hp port pn pl hq q hf fg bare sp rst)∧
 ((aj (aj (ab rst rst (0:Nat)).2.1 (ByteArray.mk #[47,47]).data.toList).1 (ByteArray.mk #[47]).data.toList).2=false→
 (List.length (aj (aj (ab rst rst (0:Nat)).2.1 (ByteArray.mk #[47,47]).data.toList).1 (ByteArray.mk #[47]).data.toList).1).le (300000:Nat)∧
 (aa (aj (aj (ab rst rst (0:Nat)).2.1 (ByteArray.mk #[47,47]).data.toList).1 (ByteArray.mk #[47]).data.toList).1 ↑(aF (aj (aj (ab rst rst (0:Nat)).2.1 (ByteArray.mk #[47,47]).data.toList).1 (ByteArray.mk #[47]).data.toList).1)).length.le (300000:Nat)∧
 (List.length (bK (aa (aj (aj (ab rst rst (0:Nat)).2.1 (ByteArray.mk #[47,47]).data.toList).1 (ByteArray.mk #[47]).data.toList).1 ↑(aF (aj (aj (ab rst rst (0:Nat)).2.1 (ByteArray.mk #[47,47]).data.toList).1 (ByteArray.mk #[47]).data.toList).1)))).le (300000:Nat)∧
 k (PV.int .i64 (0:Int)) [bT (PV.raw (Go.Value.pointer none)) 0 ((ab rst rst (0:Nat)).1) us pw hk hs hn hp port true false ([lB (ae (aj (aj (ab rst rst (0:Nat)).2.1 (ByteArray.mk #[47,47]).data.toList).1 (ByteArray.mk #[47]).data.toList).1 ↑(aF (aj (aj (ab rst rst (0:Nat)).2.1 (ByteArray.mk #[47,47]).data.toList).1 (ByteArray.mk #[47]).data.toList).1)) (aa (aj (aj (ab rst rst (0:Nat)).2.1 (ByteArray.mk #[47,47]).data.toList).1 (ByteArray.mk #[47]).data.toList).1 ↑(aF (aj (aj (ab rst rst (0:Nat)).2.1 (ByteArray.mk #[47,47]).data.toList).1 (ByteArray.mk #[47]).data.toList).1))]) (ee (aa (aj (aj (ab rst rst (0:Nat)).2.1 (ByteArray.mk #[47,47]).data.toList).1 (ByteArray.mk #[47]).data.toList).1 ↑(aF (aj (aj (ab rst rst (0:Nat)).2.1 (ByteArray.mk #[47,47]).data.toList).1 (ByteArray.mk #[47]).data.toList).1)) hq) (eh (ay (ab rst rst (0:Nat)).1) (aa (aj (aj (ab rst rst (0:Nat)).2.1 (ByteArray.mk #[47,47]).data.toList).1 (ByteArray.mk #[47]).data.toList).1 ↑(aF (aj (aj (ab rst rst (0:Nat)).2.1 (ByteArray.mk #[47,47]).data.toList).1 (ByteArray.mk #[47]).data.toList).1)) q) (ei (bK (aa (aj (aj (ab rst rst (0:Nat)).2.1 (ByteArray.mk #[47,47]).data.toList).1 (ByteArray.mk #[47]).data.toList).1 ↑(aF (aj (aj (ab rst rst (0:Nat)).2.1 (ByteArray.mk #[47,47]).data.toList).1 (ByteArray.mk #[47]).data.toList).1))) hf) (ej (bK (aa (aj (aj (ab rst rst (0:Nat)).2.1 (ByteArray.mk #[47,47]).data.toList).1 (ByteArray.mk #[47]).data.toList).1 ↑(aF (aj (aj (ab rst rst (0:Nat)).2.1 (ByteArray.mk #[47,47]).data.toList).1 (ByteArray.mk #[47]).data.toList).1))) fg) false (ay (ab rst rst (0:Nat)).1) (en (bK (aa (aj (aj (ab rst rst (0:Nat)).2.1 (ByteArray.mk #[47,47]).data.toList).1 (ByteArray.mk #[47]).data.toList).1 ↑(aF (aj (aj (ab rst rst (0:Nat)).2.1 (ByteArray.mk #[47,47]).data.toList).1 (ByteArray.mk #[47]).data.toList).1))))]))))))∧
 (false=!false→
 ((!false)=false→
 false=true→
 True)∧
 (true=true→
 VS.mk [] [(0,PV.ptr (0:Nat) (0:Nat)),(2,PV.int .i64 (0:Int)),(3,PV.int .i64 (0:Int)),(6,PV.bool !decide ((0:Int)=(0:Int))),(10,PV.bool false),(16,PV.bool (decide ((ab rst rst (0:Nat)).1=(ByteArray.mk #[102,105,108,101]).data.toList))),(26,PV.undef),(28,PV.bool true),(51,PV.undef),(58,PV.undef),(61,PV.undef),(71,PV.undef),(77,PV.undef),(81,PV.undef),(87,PV.undef),(97,PV.undef)] [((0:Nat),bT (PV.raw (Go.Value.pointer none)) 1 ((ab rst rst (0:Nat)).1) us pw hk hs hn hp port false pn pl hq q hf fg false (ay (ab rst rst (0:Nat)).1) ((ab rst rst (0:Nat)).2.1))]=VS.mk [] [] []∧
 False∧
 ∀(x:RS),False→
 False)∧
 (true=false→
 (ay (ab rst rst (0:Nat)).1=true→
 (List.length (ab rst rst (0:Nat)).2.1).le (300000:Nat)∧
 VS.mk [] [(0,PV.ptr (0:Nat) (0:Nat)),(2,PV.int .i64 (0:Int)),(3,PV.int .i64 (0:Int)),(6,PV.bool !decide ((0:Int)=(0:Int))),(10,PV.bool false),(16,PV.bool (decide ((ab rst rst (0:Nat)).1=(ByteArray.mk #[102,105,108,101]).data.toList))),(26,PV.undef),(28,PV.bool true),(51,PV.bool (ay (ab rst rst (0:Nat)).1)),(58,PV.undef),(61,PV.undef),(71,PV.undef),(77,PV.undef),(81,PV.undef),(87,PV.undef),(97,PV.undef)] [((0:Nat),bT (PV.raw (Go.Value.pointer none)) 1 ((ab rst rst (0:Nat)).1) us pw hk hs hn hp port false pn pl hq q hf fg false (ay (ab rst rst (0:Nat)).1) (aC (List.length (ab rst rst (0:Nat)).2.1) (ay (ab rst rst (0:Nat)).1) (0:Int) (ab rst rst (0:Nat)).2.1))]=VS.mk [] [(0,PV.ptr (0:Nat) (0:Nat)),(2,PV.int .i64 (0:Int)),(3,PV.int .i64 (0:Int)),(6,PV.bool !decide ((0:Int)=(0:Int))),(10,PV.bool false),(16,PV.bool (decide ((ab rst rst (0:Nat)).1=(ByteArray.mk #[102,105,108,101]).data.toList))),(26,PV.undef),(28,PV.bool true),(51,PV.bool (ay (ab rst rst (0:Nat)).1)),(58,PV.undef),(61,PV.undef),(71,PV.undef),(77,PV.undef),(81,PV.undef),(87,PV.undef),(97,PV.undef)] [((0:Nat),bT (PV.raw (Go.Value.pointer none)) 1 ((RS.mk (ab rst rst (0:Nat)).1 us pw hk hs hn hp port false pn pl hq q hf fg false (ay (ab rst rst (0:Nat)).1) (aC (List.length (ab rst rst (0:Nat)).2.1) (ay (ab rst rst (0:Nat)).1) (0:Int) (ab rst rst (0:Nat)).2.1)).sc) ((RS.mk (ab rst rst (0:Nat)).1 us pw hk hs hn hp port false pn pl hq q hf fg false (ay (ab rst rst (0:Nat)).1) (aC (List.length (ab rst rst (0:Nat)).2.1) (ay (ab rst rst (0:Nat)).1) (0:Int) (ab rst rst (0:Nat)).2.1)).us) ((RS.mk (ab rst rst (0:Nat)).1 us pw hk hs hn hp port false pn pl hq q hf fg false (ay (ab rst rst (0:Nat)).1) (aC (List.length (ab rst rst (0:Nat)).2.1) (ay (ab rst rst (0:Nat)).1) (0:Int) (ab rst rst (0:Nat)).2.1)).pw) ((RS.mk (ab rst rst (0:Nat)).1 us pw hk hs hn hp port false pn pl hq q hf fg false (ay (ab rst rst (0:Nat)).1) (aC (List.length (ab rst rst (0:Nat)).2.1) (ay (ab rst rst (0:Nat)).1) (0:Int) (ab rst rst (0:Nat)).2.1)).hk) ((RS.mk (ab rst rst (0:Nat)).1 us pw hk hs hn hp port false pn pl hq q hf fg false (ay (ab rst rst (0:Nat)).1) (aC (List.length (ab rst rst (0:Nat)).2.1) (ay (ab rst rst (0:Nat)).1) (0:Int) (ab rst rst (0:Nat)).2.1)).hs) ((RS.mk (ab rst rst (0:Nat)).1 us pw hk hs hn hp port false pn pl hq q hf fg false (ay (ab rst rst (0:Nat)).1) (aC (List.length (ab rst rst (0:Nat)).2.1) (ay (ab rst rst (0:Nat)).1) (0:Int) (ab rst rst (0:Nat)).2.1)).hn) ((RS.mk (ab rst rst (0:Nat)).1 us pw hk hs hn hp port false pn pl hq q hf fg false (ay (ab rst rst (0:Nat)).1) (aC (List.length (ab rst rst (0:Nat)).2.1) (ay (ab rst rst (0:Nat)).1) (0:Int) (ab rst rst (0:Nat)).2.1)).hp) ((RS.mk (ab rst rst (0:Nat)).1 us pw hk hs hn hp port false pn pl hq q hf fg false (ay (ab rst rst (0:Nat)).1) (aC (List.length (ab rst rst (0:Nat)).2.1) (ay (ab rst rst (0:Nat)).1) (0:Int) (ab rst rst (0:Nat)).2.1)).port) ((RS.mk (ab rst rst (0:Nat)).1 us pw hk hs hn hp port false pn pl hq q hf fg false (ay (ab rst rst (0:Nat)).1) (aC (List.length (ab rst rst (0:Nat)).2.1) (ay (ab rst rst (0:Nat)).1) (0:Int) (ab rst rst (0:Nat)).2.1)).opq) ((RS.mk (ab rst rst (0:Nat)).1 us pw hk hs hn hp port false pn pl hq q hf fg false (ay (ab rst rst (0:Nat)).1) (aC (List.length (ab rst rst (0:Nat)).2.1) (ay (ab rst rst (0:Nat)).1) (0:Int) (ab rst rst (0:Nat)).2.1)).pn) ((RS.mk (ab rst rst (0:Nat)).1 us pw hk hs hn hp port false pn pl hq q hf fg false (ay (ab rst rst (0:Nat)).1) (aC (List.length (ab rst rst (0:Nat)).2.1) (ay (ab rst rst (0:Nat)).1) (0:Int) (ab rst rst (0:Nat)).2.1)).pl) ((RS.mk (ab rst rst (0:Nat)).1 us pw hk hs hn hp port false pn pl hq q hf fg false (ay (ab rst rst (0:Nat)).1) (aC (List.length (ab rst rst (0:Nat)).2.1) (ay (ab rst rst (0:Nat)).1) (0:Int) (ab rst rst (0:Nat)).2.1)).hq) ((RS.mk (ab rst rst (0:Nat)).1 us pw hk hs hn hp port false pn pl hq q hf fg false (ay (ab rst rst (0:Nat)).1) (aC (List.length (ab rst rst (0:Nat)).2.1) (ay (ab rst rst (0:Nat)).1) (0:Int) (ab rst rst (0:Nat)).2.1)).q) ((RS.mk (ab rst rst (0:Nat)).1 us pw hk hs hn hp port false pn pl hq q hf fg false (ay (ab rst rst (0:Nat)).1) (aC (List.length (ab rst rst (0:Nat)).2.1) (ay (ab rst rst (0:Nat)).1) (0:Int) (ab rst rst (0:Nat)).2.1)).hf) ((RS.mk (ab rst rst (0:Nat)).1 us pw hk hs hn hp port false pn pl hq q hf fg false (ay (ab rst rst (0:Nat)).1) (aC (List.length (ab rst rst (0:Nat)).2.1) (ay (ab rst rst (0:Nat)).1) (0:Int) (ab rst rst (0:Nat)).2.1)).fg) ((RS.mk (ab rst rst (0:Nat)).1 us pw hk hs hn hp port false pn pl hq q hf fg false (ay (ab rst rst (0:Nat)).1) (aC (List.length (ab rst rst (0:Nat)).2.1) (ay (ab rst rst (0:Nat)).1) (0:Int) (ab rst rst (0:Nat)).2.1)).bare) ((RS.mk (ab rst rst (0:Nat)).1 us pw hk hs hn hp port false pn pl hq q hf fg false (ay (ab rst rst (0:Nat)).1) (aC (List.length (ab rst rst (0:Nat)).2.1) (ay (ab rst rst (0:Nat)).1) (0:Int) (ab rst rst (0:Nat)).2.1)).sp) ((RS.mk (ab rst rst (0:Nat)).1 us pw hk hs hn hp port false pn pl hq q hf fg false (ay (ab rst rst (0:Nat)).1) (aC (List.length (ab rst rst (0:Nat)).2.1) (ay (ab rst rst (0:Nat)).1) (0:Int) (ab rst rst (0:Nat)).2.1)).rst))]∧
 ((RS.mk sc us pw hk hs hn hp port false pn pl hq q hf fg bare sp rst).ao=(RS.mk (ab rst rst (0:Nat)).1 us pw hk hs hn hp port false pn pl hq q hf fg false (ay (ab rst rst (0:Nat)).1) (aC (List.length (ab rst rst (0:Nat)).2.1) (ay (ab rst rst (0:Nat)).1) (0:Int) (ab rst rst (0:Nat)).2.1)).bX∧
 List.length (RS.mk (ab rst rst (0:Nat)).1 us pw hk hs hn hp port false pn pl hq q hf fg false (ay (ab rst rst (0:Nat)).1) (aC (List.length (ab rst rst (0:Nat)).2.1) (ay (ab rst rst (0:Nat)).1) (0:Int) (ab rst rst (0:Nat)).2.1)).rst≤(300000:Nat)∧
 (RS.mk (ab rst rst (0:Nat)).1 us pw hk hs hn hp port false pn pl hq q hf fg false (ay (ab rst rst (0:Nat)).1) (aC (List.length (ab rst rst (0:Nat)).2.1) (ay (ab rst rst (0:Nat)).1) (0:Int) (ab rst rst (0:Nat)).2.1)).pl.length≤(100000:Nat))∧
 A1 k sc us pw hk hs hn hp port pn pl hq q hf fg bare sp rst)∧
 (ay (ab rst rst (0:Nat)).1=false→
 True∧
 ((aj (ab rst rst (0:Nat)).2.1 (ByteArray.mk #[47,47]).data.toList).2=true→
 VS.mk [] [(0,PV.ptr (0:Nat) (0:Nat)),(2,PV.int .i64 (0:Int)),(3,PV.int .i64 (0:Int)),(6,PV.bool !decide ((0:Int)=(0:Int))),(10,PV.bool false),(16,PV.bool (decide ((ab rst rst (0:Nat)).1=(ByteArray.mk #[102,105,108,101]).data.toList))),(26,PV.undef),(28,PV.bool true),(51,PV.bool (ay (ab rst rst (0:Nat)).1)),(58,PV.bool (aj (ab rst rst (0:Nat)).2.1 (ByteArray.mk #[47,47]).data.toList).2),(61,PV.undef),(71,PV.undef),(77,PV.undef),(81,PV.undef),(87,PV.undef),(97,PV.undef)] [((0:Nat),bT (PV.raw (Go.Value.pointer none)) 1 ((ab rst rst (0:Nat)).1) us pw hk hs hn hp port false pn pl hq q hf fg false (ay (ab rst rst (0:Nat)).1) ((aj (ab rst rst (0:Nat)).2.1 (ByteArray.mk #[47,47]).data.toList).1))]=VS.mk [] [(0,PV.ptr (0:Nat) (0:Nat)),(2,PV.int .i64 (0:Int)),(3,PV.int .i64 (0:Int)),(6,PV.bool !decide ((0:Int)=(0:Int))),(10,PV.bool false),(16,PV.bool (decide ((ab rst rst (0:Nat)).1=(ByteArray.mk #[102,105,108,101]).data.toList))),(26,PV.undef),(28,PV.bool true),(51,PV.bool (ay (ab rst rst (0:Nat)).1)),(58,PV.bool (aj (ab rst rst (0:Nat)).2.1 (ByteArray.mk #[47,47]).data.toList).2),(61,PV.undef),(71,PV.undef),(77,PV.undef),(81,PV.undef),(87,PV.undef),(97,PV.undef)] [((0:Nat),bT (PV.raw (Go.Value.pointer none)) 1 ((RS.mk (ab rst rst (0:Nat)).1 us pw hk hs hn hp port false pn pl hq q hf fg false (ay (ab rst rst (0:Nat)).1) (aj (ab rst rst (0:Nat)).2.1 (ByteArray.mk #[47,47]).data.toList).1).sc) ((RS.mk (ab rst rst (0:Nat)).1 us pw hk hs hn hp port false pn pl hq q hf fg false (ay (ab rst rst (0:Nat)).1) (aj (ab rst rst (0:Nat)).2.1 (ByteArray.mk #[47,47]).data.toList).1).us) ((RS.mk (ab rst rst (0:Nat)).1 us pw hk hs hn hp port false pn pl hq q hf fg false (ay (ab rst rst (0:Nat)).1) (aj (ab rst rst (0:Nat)).2.1 (ByteArray.mk #[47,47]).data.toList).1).pw) ((RS.mk (ab rst rst (0:Nat)).1 us pw hk hs hn hp port false pn pl hq q hf fg false (ay (ab rst rst (0:Nat)).1) (aj (ab rst rst (0:Nat)).2.1 (ByteArray.mk #[47,47]).data.toList).1).hk) ((RS.mk (ab rst rst (0:Nat)).1 us pw hk hs hn hp port false pn pl hq q hf fg false (ay (ab rst rst (0:Nat)).1) (aj (ab rst rst (0:Nat)).2.1 (ByteArray.mk #[47,47]).data.toList).1).hs) ((RS.mk (ab rst rst (0:Nat)).1 us pw hk hs hn hp port false pn pl hq q hf fg false (ay (ab rst rst (0:Nat)).1) (aj (ab rst rst (0:Nat)).2.1 (ByteArray.mk #[47,47]).data.toList).1).hn) ((RS.mk (ab rst rst (0:Nat)).1 us pw hk hs hn hp port false pn pl hq q hf fg false (ay (ab rst rst (0:Nat)).1) (aj (ab rst rst (0:Nat)).2.1 (ByteArray.mk #[47,47]).data.toList).1).hp) ((RS.mk (ab rst rst (0:Nat)).1 us pw hk hs hn hp port false pn pl hq q hf fg false (ay (ab rst rst (0:Nat)).1) (aj (ab rst rst (0:Nat)).2.1 (ByteArray.mk #[47,47]).data.toList).1).port) ((RS.mk (ab rst rst (0:Nat)).1 us pw hk hs hn hp port false pn pl hq q hf fg false (ay (ab rst rst (0:Nat)).1) (aj (ab rst rst (0:Nat)).2.1 (ByteArray.mk #[47,47]).data.toList).1).opq) ((RS.mk (ab rst rst (0:Nat)).1 us pw hk hs hn hp port false pn pl hq q hf fg false (ay (ab rst rst (0:Nat)).1) (aj (ab rst rst (0:Nat)).2.1 (ByteArray.mk #[47,47]).data.toList).1).pn) ((RS.mk (ab rst rst (0:Nat)).1 us pw hk hs hn hp port false pn pl hq q hf fg false (ay (ab rst rst (0:Nat)).1) (aj (ab rst rst (0:Nat)).2.1 (ByteArray.mk #[47,47]).data.toList).1).pl) ((RS.mk (ab rst rst (0:Nat)).1 us pw hk hs hn hp port false pn pl hq q hf fg false (ay (ab rst rst (0:Nat)).1) (aj (ab rst rst (0:Nat)).2.1 (ByteArray.mk #[47,47]).data.toList).1).hq) ((RS.mk (ab rst rst (0:Nat)).1 us pw hk hs hn hp port false pn pl hq q hf fg false (ay (ab rst rst (0:Nat)).1) (aj (ab rst rst (0:Nat)).2.1 (ByteArray.mk #[47,47]).data.toList).1).q) ((RS.mk (ab rst rst (0:Nat)).1 us pw hk hs hn hp port false pn pl hq q hf fg false (ay (ab rst rst (0:Nat)).1) (aj (ab rst rst (0:Nat)).2.1 (ByteArray.mk #[47,47]).data.toList).1).hf) ((RS.mk (ab rst rst (0:Nat)).1 us pw hk hs hn hp port false pn pl hq q hf fg false (ay (ab rst rst (0:Nat)).1) (aj (ab rst rst (0:Nat)).2.1 (ByteArray.mk #[47,47]).data.toList).1).fg) ((RS.mk (ab rst rst (0:Nat)).1 us pw hk hs hn hp port false pn pl hq q hf fg false (ay (ab rst rst (0:Nat)).1) (aj (ab rst rst (0:Nat)).2.1 (ByteArray.mk #[47,47]).data.toList).1).bare) ((RS.mk (ab rst rst (0:Nat)).1 us pw hk hs hn hp port false pn pl hq q hf fg false (ay (ab rst rst (0:Nat)).1) (aj (ab rst rst (0:Nat)).2.1 (ByteArray.mk #[47,47]).data.toList).1).sp) ((RS.mk (ab rst rst (0:Nat)).1 us pw hk hs hn hp port false pn pl hq q hf fg false (ay (ab rst rst (0:Nat)).1) (aj (ab rst rst (0:Nat)).2.1 (ByteArray.mk #[47,47]).data.toList).1).rst))]∧
 ((RS.mk sc us pw hk hs hn hp port false pn pl hq q hf fg bare sp rst).ao=(RS.mk (ab rst rst (0:Nat)).1 us pw hk hs hn hp port false pn pl hq q hf fg false (ay (ab rst rst (0:Nat)).1) (aj (ab rst rst (0:Nat)).2.1 (ByteArray.mk #[47,47]).data.toList).1).bX∧
 List.length (RS.mk (ab rst rst (0:Nat)).1 us pw hk hs hn hp port false pn pl hq q hf fg false (ay (ab rst rst (0:Nat)).1) (aj (ab rst rst (0:Nat)).2.1 (ByteArray.mk #[47,47]).data.toList).1).rst≤(300000:Nat)∧
 (RS.mk (ab rst rst (0:Nat)).1 us pw hk hs hn hp port false pn pl hq q hf fg false (ay (ab rst rst (0:Nat)).1) (aj (ab rst rst (0:Nat)).2.1 (ByteArray.mk #[47,47]).data.toList).1).pl.length≤(100000:Nat))∧
 A1 k sc us pw hk hs hn hp port pn pl hq q hf fg bare sp rst)∧
 ((aj (ab rst rst (0:Nat)).2.1 (ByteArray.mk #[47,47]).data.toList).2=false→
 True∧
 ((aj (aj (ab rst rst (0:Nat)).2.1 (ByteArray.mk #[47,47]).data.toList).1 (ByteArray.mk #[47]).data.toList).2=true→
 VS.mk [] [(0,PV.ptr (0:Nat) (0:Nat)),(2,PV.int .i64 (0:Int)),(3,PV.int .i64 (0:Int)),(6,PV.bool !decide ((0:Int)=(0:Int))),(10,PV.bool false),(16,PV.bool (decide ((ab rst rst (0:Nat)).1=(ByteArray.mk #[102,105,108,101]).data.toList))),(26,PV.undef),(28,PV.bool true),(51,PV.bool (ay (ab rst rst (0:Nat)).1)),(58,PV.bool (aj (ab rst rst (0:Nat)).2.1 (ByteArray.mk #[47,47]).data.toList).2),(61,PV.bool (aj (aj (ab rst rst (0:Nat)).2.1 (ByteArray.mk #[47,47]).data.toList).1 (ByteArray.mk #[47]).data.toList).2),(71,PV.undef),(77,PV.undef),(81,PV.undef),(87,PV.undef),(97,PV.undef)] [((0:Nat),bT (PV.raw (Go.Value.pointer none)) 1 ((ab rst rst (0:Nat)).1) us pw hk hs hn hp port false pn pl hq q hf fg false (ay (ab rst rst (0:Nat)).1) ((aj (aj (ab rst rst (0:Nat)).2.1 (ByteArray.mk #[47,47]).data.toList).1 (ByteArray.mk #[47]).data.toList).1))]=VS.mk [] [(0,PV.ptr (0:Nat) (0:Nat)),(2,PV.int .i64 (0:Int)),(3,PV.int .i64 (0:Int)),(6,PV.bool !decide ((0:Int)=(0:Int))),(10,PV.bool false),(16,PV.bool (decide ((ab rst rst (0:Nat)).1=(ByteArray.mk #[102,105,108,101]).data.toList))),(26,PV.undef),(28,PV.bool true),(51,PV.bool (ay (ab rst rst (0:Nat)).1)),(58,PV.bool (aj (ab rst rst (0:Nat)).2.1 (ByteArray.mk #[47,47]).data.toList).2),(61,PV.bool (aj (aj (ab rst rst (0:Nat)).2.1 (ByteArray.mk #[47,47]).data.toList).1 (ByteArray.mk #[47]).data.toList).2),(71,PV.undef),(77,PV.undef),(81,PV.undef),(87,PV.undef),(97,PV.undef)] [((0:Nat),bT (PV.raw (Go.Value.pointer none)) 1 ((RS.mk (ab rst rst (0:Nat)).1 us pw hk hs hn hp port false pn pl hq q hf fg false (ay (ab rst rst (0:Nat)).1) (aj (aj (ab rst rst (0:Nat)).2.1 (ByteArray.mk #[47,47]).data.toList).1 (ByteArray.mk #[47]).data.toList).1).sc) ((RS.mk (ab rst rst (0:Nat)).1 us pw hk hs hn hp port false pn pl hq q hf fg false (ay (ab rst rst (0:Nat)).1) (aj (aj (ab rst rst (0:Nat)).2.1 (ByteArray.mk #[47,47]).data.toList).1 (ByteArray.mk #[47]).data.toList).1).us) ((RS.mk (ab rst rst (0:Nat)).1 us pw hk hs hn hp port false pn pl hq q hf fg false (ay (ab rst rst (0:Nat)).1) (aj (aj (ab rst rst (0:Nat)).2.1 (ByteArray.mk #[47,47]).data.toList).1 (ByteArray.mk #[47]).data.toList).1).pw) ((RS.mk (ab rst rst (0:Nat)).1 us pw hk hs hn hp port false pn pl hq q hf fg false (ay (ab rst rst (0:Nat)).1) (aj (aj (ab rst rst (0:Nat)).2.1 (ByteArray.mk #[47,47]).data.toList).1 (ByteArray.mk #[47]).data.toList).1).hk) ((RS.mk (ab rst rst (0:Nat)).1 us pw hk hs hn hp port false pn pl hq q hf fg false (ay (ab rst rst (0:Nat)).1) (aj (aj (ab rst rst (0:Nat)).2.1 (ByteArray.mk #[47,47]).data.toList).1 (ByteArray.mk #[47]).data.toList).1).hs) ((RS.mk (ab rst rst (0:Nat)).1 us pw hk hs hn hp port false pn pl hq q hf fg false (ay (ab rst rst (0:Nat)).1) (aj (aj (ab rst rst (0:Nat)).2.1 (ByteArray.mk #[47,47]).data.toList).1 (ByteArray.mk #[47]).data.toList).1).hn) ((RS.mk (ab rst rst (0:Nat)).1 us pw hk hs hn hp port false pn pl hq q hf fg false (ay (ab rst rst (0:Nat)).1) (aj (aj (ab rst rst (0:Nat)).2.1 (ByteArray.mk #[47,47]).data.toList).1 (ByteArray.mk #[47]).data.toList).1).hp) ((RS.mk (ab rst rst (0:Nat)).1 us pw hk hs hn hp port false pn pl hq q hf fg false (ay (ab rst rst (0:Nat)).1) (aj (aj (ab rst rst (0:Nat)).2.1 (ByteArray.mk #[47,47]).data.toList).1 (ByteArray.mk #[47]).data.toList).1).port) ((RS.mk (ab rst rst (0:Nat)).1 us pw hk hs hn hp port false pn pl hq q hf fg false (ay (ab rst rst (0:Nat)).1) (aj (aj (ab rst rst (0:Nat)).2.1 (ByteArray.mk #[47,47]).data.toList).1 (ByteArray.mk #[47]).data.toList).1).opq) ((RS.mk (ab rst rst (0:Nat)).1 us pw hk hs hn hp port false pn pl hq q hf fg false (ay (ab rst rst (0:Nat)).1) (aj (aj (ab rst rst (0:Nat)).2.1 (ByteArray.mk #[47,47]).data.toList).1 (ByteArray.mk #[47]).data.toList).1).pn) ((RS.mk (ab rst rst (0:Nat)).1 us pw hk hs hn hp port false pn pl hq q hf fg false (ay (ab rst rst (0:Nat)).1) (aj (aj (ab rst rst (0:Nat)).2.1 (ByteArray.mk #[47,47]).data.toList).1 (ByteArray.mk #[47]).data.toList).1).pl) ((RS.mk (ab rst rst (0:Nat)).1 us pw hk hs hn hp port false pn pl hq q hf fg false (ay (ab rst rst (0:Nat)).1) (aj (aj (ab rst rst (0:Nat)).2.1 (ByteArray.mk #[47,47]).data.toList).1 (ByteArray.mk #[47]).data.toList).1).hq) ((RS.mk (ab rst rst (0:Nat)).1 us pw hk hs hn hp port false pn pl hq q hf fg false (ay (ab rst rst (0:Nat)).1) (aj (aj (ab rst rst (0:Nat)).2.1 (ByteArray.mk #[47,47]).data.toList).1 (ByteArray.mk #[47]).data.toList).1).q) ((RS.mk (ab rst rst (0:Nat)).1 us pw hk hs hn hp port false pn pl hq q hf fg false (ay (ab rst rst (0:Nat)).1) (aj (aj (ab rst rst (0:Nat)).2.1 (ByteArray.mk #[47,47]).data.toList).1 (ByteArray.mk #[47]).data.toList).1).hf) ((RS.mk (ab rst rst (0:Nat)).1 us pw hk hs hn hp port false pn pl hq q hf fg false (ay (ab rst rst (0:Nat)).1) (aj (aj (ab rst rst (0:Nat)).2.1 (ByteArray.mk #[47,47]).data.toList).1 (ByteArray.mk #[47]).data.toList).1).fg) ((RS.mk (ab rst rst (0:Nat)).1 us pw hk hs hn hp port false pn pl hq q hf fg false (ay (ab rst rst (0:Nat)).1) (aj (aj (ab rst rst (0:Nat)).2.1 (ByteArray.mk #[47,47]).data.toList).1 (ByteArray.mk #[47]).data.toList).1).bare) ((RS.mk (ab rst rst (0:Nat)).1 us pw hk hs hn hp port false pn pl hq q hf fg false (ay (ab rst rst (0:Nat)).1) (aj (aj (ab rst rst (0:Nat)).2.1 (ByteArray.mk #[47,47]).data.toList).1 (ByteArray.mk #[47]).data.toList).1).sp) ((RS.mk (ab rst rst (0:Nat)).1 us pw hk hs hn hp port false pn pl hq q hf fg false (ay (ab rst rst (0:Nat)).1) (aj (aj (ab rst rst (0:Nat)).2.1 (ByteArray.mk #[47,47]).data.toList).1 (ByteArray.mk #[47]).data.toList).1).rst))]∧
 ((RS.mk sc us pw hk hs hn hp port false pn pl hq q hf fg bare sp rst).ao=((RS.mk (ab rst rst (0:Nat)).1 us pw hk hs hn hp port false pn pl hq q hf fg false (ay (ab rst rst (0:Nat)).1) (aj (aj (ab rst rst (0:Nat)).2.1 (ByteArray.mk #[47,47]).data.toList).1 (ByteArray.mk #[47]).data.toList).1).path.tail,(0:Int))∧
 List.length (RS.mk (ab rst rst (0:Nat)).1 us pw hk hs hn hp port false pn pl hq q hf fg false (ay (ab rst rst (0:Nat)).1) (aj (aj (ab rst rst (0:Nat)).2.1 (ByteArray.mk #[47,47]).data.toList).1 (ByteArray.mk #[47]).data.toList).1).rst≤(300000:Nat)∧
 (RS.mk (ab rst rst (0:Nat)).1 us pw hk hs hn hp port false pn pl hq q hf fg false (ay (ab rst rst (0:Nat)).1) (aj (aj (ab rst rst (0:Nat)).2.1 (ByteArray.mk #[47,47]).data.toList).1 (ByteArray.mk #[47]).data.toList).1).pl.length≤(100000:Nat))∧
 Jz k sc us pw hk hs hn hp port pn pl hq q hf fg bare sp rst)∧
 ((aj (aj (ab rst rst (0:Nat)).2.1 (ByteArray.mk #[47,47]).data.toList).1 (ByteArray.mk #[47]).data.toList).2=false→
 (List.length (aj (aj (ab rst rst (0:Nat)).2.1 (ByteArray.mk #[47,47]).data.toList).1 (ByteArray.mk #[47]).data.toList).1).le (300000:Nat)∧
 (aa (aj (aj (ab rst rst (0:Nat)).2.1 (ByteArray.mk #[47,47]).data.toList).1 (ByteArray.mk #[47]).data.toList).1 ↑(aF (aj (aj (ab rst rst (0:Nat)).2.1 (ByteArray.mk #[47,47]).data.toList).1 (ByteArray.mk #[47]).data.toList).1)).length.le (300000:Nat)∧
 (List.length (bK (aa (aj (aj (ab rst rst (0:Nat)).2.1 (ByteArray.mk #[47,47]).data.toList).1 (ByteArray.mk #[47]).data.toList).1 ↑(aF (aj (aj (ab rst rst (0:Nat)).2.1 (ByteArray.mk #[47,47]).data.toList).1 (ByteArray.mk #[47]).data.toList).1)))).le (300000:Nat)∧
 k (PV.int .i64 (0:Int)) [bT (PV.raw (Go.Value.pointer none)) 0 ((ab rst rst (0:Nat)).1) us pw hk hs hn hp port true false ([lB (ae (aj (aj (ab rst rst (0:Nat)).2.1 (ByteArray.mk #[47,47]).data.toList).1 (ByteArray.mk #[47]).data.toList).1 ↑(aF (aj (aj (ab rst rst (0:Nat)).2.1 (ByteArray.mk #[47,47]).data.toList).1 (ByteArray.mk #[47]).data.toList).1)) (aa (aj (aj (ab rst rst (0:Nat)).2.1 (ByteArray.mk #[47,47]).data.toList).1 (ByteArray.mk #[47]).data.toList).1 ↑(aF (aj (aj (ab rst rst (0:Nat)).2.1 (ByteArray.mk #[47,47]).data.toList).1 (ByteArray.mk #[47]).data.toList).1))]) (ee (aa (aj (aj (ab rst rst (0:Nat)).2.1 (ByteArray.mk #[47,47]).data.toList).1 (ByteArray.mk #[47]).data.toList).1 ↑(aF (aj (aj (ab rst rst (0:Nat)).2.1 (ByteArray.mk #[47,47]).data.toList).1 (ByteArray.mk #[47]).data.toList).1)) hq) (eh (ay (ab rst rst (0:Nat)).1) (aa (aj (aj (ab rst rst (0:Nat)).2.1 (ByteArray.mk #[47,47]).data.toList).1 (ByteArray.mk #[47]).data.toList).1 ↑(aF (aj (aj (ab rst rst (0:Nat)).2.1 (ByteArray.mk #[47,47]).data.toList).1 (ByteArray.mk #[47]).data.toList).1)) q) (ei (bK (aa (aj (aj (ab rst rst (0:Nat)).2.1 (ByteArray.mk #[47,47]).data.toList).1 (ByteArray.mk #[47]).data.toList).1 ↑(aF (aj (aj (ab rst rst (0:Nat)).2.1 (ByteArray.mk #[47,47]).data.toList).1 (ByteArray.mk #[47]).data.toList).1))) hf) (ej (bK (aa (aj (aj (ab rst rst (0:Nat)).2.1 (ByteArray.mk #[47,47]).data.toList).1 (ByteArray.mk #[47]).data.toList).1 ↑(aF (aj (aj (ab rst rst (0:Nat)).2.1 (ByteArray.mk #[47,47]).data.toList).1 (ByteArray.mk #[47]).data.toList).1))) fg) false (ay (ab rst rst (0:Nat)).1) (en (bK (aa (aj (aj (ab rst rst (0:Nat)).2.1 (ByteArray.mk #[47,47]).data.toList).1 (ByteArray.mk #[47]).data.toList).1 ↑(aF (aj (aj (ab rst rst (0:Nat)).2.1 (ByteArray.mk #[47,47]).data.toList).1 (ByteArray.mk #[47]).data.toList).1))))]))))))))):=by kernel_rfl
attribute [local irreducible] Go.Vc.cB Go.Vc.bQ
theorem yu(sc us pw:Bs)(hk:Int)(hs:Bs)(hn:Int)(hp:List Int)(port:Int)(pn:Bool)(pl:List Bs)(hq:Bool)(q:Bs)(hf:Bool)(fg:Bs)(bare sp:Bool)(rst:Bs):bt Tryz.prog aA 47 [.ptr 0 0] [aE 1 (.raw (.pointer none)) sc us pw hk hs hn hp port false pn pl hq q hf fg bare sp rst] (rst.length≤300000∧pl.length≤100000∧(ab rst rst 0).2.2=true) (.int .i64 (RS.mk sc us pw hk hs hn hp port false pn pl hq q hf fg bare sp rst).ao.2) [aE 0 (.raw (.pointer none)) ((RS.mk sc us pw hk hs hn hp port false pn pl hq q hf fg bare sp rst).ao.1.sc) ((RS.mk sc us pw hk hs hn hp port false pn pl hq q hf fg bare sp rst).ao.1.us) ((RS.mk sc us pw hk hs hn hp port false pn pl hq q hf fg bare sp rst).ao.1.pw) ((RS.mk sc us pw hk hs hn hp port false pn pl hq q hf fg bare sp rst).ao.1.hk) ((RS.mk sc us pw hk hs hn hp port false pn pl hq q hf fg bare sp rst).ao.1.hs) ((RS.mk sc us pw hk hs hn hp port false pn pl hq q hf fg bare sp rst).ao.1.hn) ((RS.mk sc us pw hk hs hn hp port false pn pl hq q hf fg bare sp rst).ao.1.hp) ((RS.mk sc us pw hk hs hn hp port false pn pl hq q hf fg bare sp rst).ao.1.port) ((RS.mk sc us pw hk hs hn hp port false pn pl hq q hf fg bare sp rst).ao.1.opq) ((RS.mk sc us pw hk hs hn hp port false pn pl hq q hf fg bare sp rst).ao.1.pn) ((RS.mk sc us pw hk hs hn hp port false pn pl hq q hf fg bare sp rst).ao.1.pl) ((RS.mk sc us pw hk hs hn hp port false pn pl hq q hf fg bare sp rst).ao.1.hq) ((RS.mk sc us pw hk hs hn hp port false pn pl hq q hf fg bare sp rst).ao.1.q) ((RS.mk sc us pw hk hs hn hp port false pn pl hq q hf fg bare sp rst).ao.1.hf) ((RS.mk sc us pw hk hs hn hp port false pn pl hq q hf fg bare sp rst).ao.1.fg) ((RS.mk sc us pw hk hs hn hp port false pn pl hq q hf fg bare sp rst).ao.1.bare) ((RS.mk sc us pw hk hs hn hp port false pn pl hq q hf fg bare sp rst).ao.1.sp) ((RS.mk sc us pw hk hs hn hp port false pn pl hq q hf fg bare sp rst).ao.1.rst)]:=uO (by kernel_rfl) yr (H:=yq sc us pw hk hs hn hp port pn pl hq q hf fg bare sp rst) (fuel:=1000) Tryz.func47 (by kernel_rfl) (Nat.le_of_ble_eq_true rfl) fun hpre=>(Ek sc us pw hk hs hn hp port pn pl hq q hf fg bare sp rst _).mpr (by
 obtain ⟨hp1,hp2,hp3⟩:=hpre
 have hRl:=rN rst rst 0
 have hsch:(RS.mk sc us pw hk hs hn hp port false pn pl hq q hf fg bare sp rst).dx=(RS.mk (ab rst rst 0).1 us pw hk hs hn hp port false pn pl hq q hf fg false (ay (ab rst rst 0).1) (ab rst rst 0).2.1,0):=if_pos hp3
 have bA:=JB sc us pw hk hs hn hp port pn pl hq q hf fg bare sp rst
 have bB:=JA sc us pw hk hs hn hp port pn pl hq q hf fg bare sp rst
 have e0:(RS.mk sc us pw hk hs hn hp port false pn pl hq q hf fg bare sp rst).ao=(if(ab rst rst 0).1=fL then(if(RS.mk (ab rst rst 0).1 us pw hk hs hn hp port false pn pl hq q hf fg false (ay (ab rst rst 0).1) (ab rst rst 0).2.1).aY.2=0 then((RS.mk (ab rst rst 0).1 us pw hk hs hn hp port false pn pl hq q hf fg false (ay (ab rst rst 0).1) (ab rst rst 0).2.1).aY.1.tail,0)else(RS.mk (ab rst rst 0).1 us pw hk hs hn hp port false pn pl hq q hf fg false (ay (ab rst rst 0).1) (ab rst rst 0).2.1).aY)else if ay (ab rst rst 0).1=true then(RS.mk (ab rst rst 0).1 us pw hk hs hn hp port false pn pl hq q hf fg false (ay (ab rst rst 0).1) (ab rst rst 0).2.1).skip.bX else if preB (ab rst rst 0).2.1 [47,47]=true then((RS.mk (ab rst rst 0).1 us pw hk hs hn hp port false pn pl hq q hf fg false (ay (ab rst rst 0).1) (ab rst rst 0).2.1).cut 2).bX else if preB (ab rst rst 0).2.1 [47]=true then(((RS.mk (ab rst rst 0).1 us pw hk hs hn hp port false pn pl hq q hf fg false (ay (ab rst rst 0).1) (ab rst rst 0).2.1).cut 1).path.tail,0)else((RS.mk (ab rst rst 0).1 us pw hk hs hn hp port false pn pl hq q hf fg false (ay (ab rst rst 0).1) (ab rst rst 0).2.1).gZ.tail,0)):=by
  unfold RS.ao
  rw [hsch]
  rfl
 generalize (ab rst rst 0).1=C at *
 generalize (ab rst rst 0).2.1=R at *
 have ef:(ByteArray.mk #[102,105,108,101]).data.toList=fL:=rfl
 have e22:(ByteArray.mk #[47,47]).data.toList=([47,47]:Bs):=rfl
 have e21:(ByteArray.mk #[47]).data.toList=([47]:Bs):=rfl
 have hR:R.length≤300000:=by omega
 have hQR:=iT R
 have dz:∀(l:Bs) (z:Int),l.length≤300000→(aa l z).length≤300000:=fun l z h=>Nat.le_trans (cP l z) h
 have qz:∀l:Bs,l.length≤300000→(bK l).length≤300000:=fun l h=>Nat.le_trans (iT l) h
 have c2t:preB R [47,47]=true→aj R (ByteArray.mk #[47,47]).data.toList=(aa R 2,true):=fun h=>by unfold aj;rw [e22,h];rfl
 have c2f:preB R [47,47]=false→aj R (ByteArray.mk #[47,47]).data.toList=(R,false):=fun h=>by unfold aj;rw [e22,h];rfl
 have c1t:preB R [47]=true→aj R (ByteArray.mk #[47]).data.toList=(aa R 1,true):=fun h=>by unfold aj;rw [e21,h];rfl
 have c1f:preB R [47]=false→aj R (ByteArray.mk #[47]).data.toList=(R,false):=fun h=>by unfold aj;rw [e21,h];rfl
 have hfl:=Ej (RS.mk C us pw hk hs hn hp port false pn pl hq q hf fg false (ay C) R)
 have er:=A0 (RS.mk C us pw hk hs hn hp port false pn pl hq q hf fg false (ay C) R)
 refine ⟨⟨hp1,hp3⟩,fun h=>absurd h (by decide),fun _=>⟨fun h=>(by cases h),fun _=>⟨fun hC=>⟨⟨hR,hp2⟩,fun h3=>?_,fun h3=>⟨Nat.le_trans hfl hR,qz _ (Nat.le_trans hfl hR),?_⟩⟩,fun hC=>⟨fun _=>⟨fun hsp=>⟨trivial,fun _ h=>(by cases h),fun h=>(by cases h),fun _=>?_⟩,fun hsp=>⟨fun _ h=>(by cases h),fun h=>(by cases h),fun _=>?_⟩⟩,fun h=>absurd h (by decide)⟩⟩⟩⟩
 ·have h4:¬(RS.mk C us pw hk hs hn hp port false pn pl hq q hf fg false (ay C) R).aY.2=0:=by simpa using h3
  show KT (RS.mk sc us pw hk hs hn hp port false pn pl hq q hf fg bare sp rst).ao _ _
  rw [e0,if_pos (show C=fL from of_decide_eq_true hC),if_neg h4]
  exact ⟨rfl,congrArg (fun r=>[ot r]) er.symm⟩
 ·have h4:(RS.mk C us pw hk hs hn hp port false pn pl hq q hf fg false (ay C) R).aY.2=0:=by simpa using h3
  show KT (RS.mk sc us pw hk hs hn hp port false pn pl hq q hf fg bare sp rst).ao _ _
  rw [e0,if_pos (show C=fL from of_decide_eq_true hC),if_pos h4]
  refine ⟨rfl,?_⟩
  show _=[ot (RS.mk C us pw hk hs hn hp port false pn pl hq q hf fg false (ay C) R).aY.1.tail]
  rw [jt]
  have gen:∀G:RS,G={(RS.mk C us pw hk hs hn hp port false pn pl hq q hf fg false (ay C) R)with hk:=G.hk,hs:=G.hs,hn:=G.hn,hp:=G.hp,pn:=G.pn,pl:=G.pl,rst:=G.rst}→ot {(RS.mk C us pw hk hs hn hp port false pn pl hq q hf fg false (ay C) R)with hk:=G.hk,hs:=G.hs,hn:=G.hn,hp:=G.hp,pn:=G.pn,pl:=G.pl,hq:=ee G.rst hq,q:=eh (ay C) G.rst q,hf:=ei (bK G.rst) hf,fg:=ej (bK G.rst) fg,rst:=en (bK G.rst)}=ot {G with hq:=ee G.rst G.hq,q:=eh G.sp G.rst G.q,hf:=ei (bK G.rst) G.hf,fg:=ej (bK G.rst) G.fg,rst:=en (bK G.rst)}:=fun G e=>by
   have a1:G.sc=C:=(by have h:=congrArg RS.sc e;exact h)
   have a2:G.us=us:=(by have h:=congrArg RS.us e;exact h)
   have a3:G.pw=pw:=(by have h:=congrArg RS.pw e;exact h)
   have a4:G.port=port:=(by have h:=congrArg RS.port e;exact h)
   have a5:G.opq=false:=(by have h:=congrArg RS.opq e;exact h)
   have a6:G.hq=hq:=(by have h:=congrArg RS.hq e;exact h)
   have a7:G.q=q:=(by have h:=congrArg RS.q e;exact h)
   have a8:G.hf=hf:=(by have h:=congrArg RS.hf e;exact h)
   have a9:G.fg=fg:=(by have h:=congrArg RS.fg e;exact h)
   have a10:G.bare=false:=(by have h:=congrArg RS.bare e;exact h)
   have a11:G.sp=ay C:=(by have h:=congrArg RS.sp e;exact h)
   simp only [a1,a2,a3,a4,a5,a6,a7,a8,a9,a10,a11]
  exact congrArg (fun y=>[y]) (gen _ er)
 ·have hC':¬C=fL:=of_decide_eq_false hC
  refine ⟨fun h=>⟨hR,rfl,⟨?_,Nat.le_trans (rM _ _ _ _) hR,hp2⟩,bA⟩,fun h=>⟨trivial,?_⟩⟩
  ·rw [e0,if_neg hC',if_pos h];rfl
  have h':¬ay C=true:=by rw [h];decide
  cases h2:preB R [47,47]with
  |true=>
   rw [c2t h2]
   refine ⟨fun _=>⟨rfl,⟨?_,dz _ _ hR,hp2⟩,bA⟩,fun h=>(by cases h)⟩
   rw [e0,if_neg hC',if_neg h',if_pos h2];rfl
  |false=>
   rw [c2f h2]
   refine ⟨fun h=>(by cases h),fun _=>⟨trivial,?_⟩⟩
   show(_=true→_)∧(_=false→_)
   have h2':¬preB R [47,47]=true:=by rw [h2];decide
   cases h1:preB R [47]with
   |true=>
    rw [c1t h1]
    refine ⟨fun _=>⟨rfl,⟨?_,dz _ _ hR,hp2⟩,bB⟩,fun h=>(by cases h)⟩
    rw [e0,if_neg hC',if_neg h',if_neg h2',if_pos h1];rfl
   |false=>
    rw [c1f h1]
    have h1':¬preB R [47]=true:=by rw [h1];decide
    refine ⟨fun h=>(by cases h),fun _=>⟨hR,dz _ _ hR,qz _ (dz _ _ hR),?_⟩⟩
    show KT (RS.mk sc us pw hk hs hn hp port false pn pl hq q hf fg bare sp rst).ao _ _
    rw [e0,if_neg hC',if_neg h',if_neg h2',if_neg h1']
    refine ⟨rfl,?_⟩
    show _=[ot (RS.mk C us pw hk hs hn hp port false pn pl hq q hf fg false (ay C) R).gZ.tail]
    rw [jt]
    rfl
 ·have hC':¬C=fL:=of_decide_eq_false hC
  refine ⟨fun h=>⟨hR,rfl,⟨?_,Nat.le_trans (rM _ _ _ _) hR,hp2⟩,bA⟩,fun h=>⟨trivial,?_⟩⟩
  ·rw [e0,if_neg hC',if_pos h];rfl
  have h':¬ay C=true:=by rw [h];decide
  cases h2:preB R [47,47]with
  |true=>
   rw [c2t h2]
   refine ⟨fun _=>⟨rfl,⟨?_,dz _ _ hR,hp2⟩,bA⟩,fun h=>(by cases h)⟩
   rw [e0,if_neg hC',if_neg h',if_pos h2];rfl
  |false=>
   rw [c2f h2]
   refine ⟨fun h=>(by cases h),fun _=>⟨trivial,?_⟩⟩
   show(_=true→_)∧(_=false→_)
   have h2':¬preB R [47,47]=true:=by rw [h2];decide
   cases h1:preB R [47]with
   |true=>
    rw [c1t h1]
    refine ⟨fun _=>⟨rfl,⟨?_,dz _ _ hR,hp2⟩,bB⟩,fun h=>(by cases h)⟩
    rw [e0,if_neg hC',if_neg h',if_neg h2',if_pos h1];rfl
   |false=>
    rw [c1f h1]
    have h1':¬preB R [47]=true:=by rw [h1];decide
    refine ⟨fun h=>(by cases h),fun _=>⟨hR,dz _ _ hR,qz _ (dz _ _ hR),?_⟩⟩
    show KT (RS.mk sc us pw hk hs hn hp port false pn pl hq q hf fg bare sp rst).ao _ _
    rw [e0,if_neg hC',if_neg h',if_neg h2',if_neg h1']
    refine ⟨rfl,?_⟩
    show _=[ot (RS.mk C us pw hk hs hn hp port false pn pl hq q hf fg false (ay C) R).gZ.tail]
    rw [jt]
    rfl)
end
section
def yv:cp:=bP [(75,kd),(77,gA),(78,cY)]
def yw(sc us pw:Bs)(hk:Int)(hs:Bs)(hn:Int)(hp:List Int)(port:Int)(pn:Bool)(pl:List Bs)(hq:Bool)(q:Bs)(hf:Bool)(fg:Bs)(bare sp:Bool)(rst:Bs):ba:=fun i=>none
theorem yx:cR Tryz.prog aA yv:=ai rI (ai gw (ai cI (ax)))
theorem El(sc us pw:Bs)(hk:Int)(hs:Bs)(hn:Int)(hp:List Int)(port:Int)(pn:Bool)(pl:List Bs)(hq:Bool)(q:Bs)(hf:Bool)(fg:Bs)(bare sp:Bool)(rst:Bs)(k:PV→List PV→Prop):bQ Tryz.prog yv aA (yw sc us pw hk hs hn hp port pn pl hq q hf fg bare sp rst) 1000 Tryz.f47 [.ptr 0 0] [aE 1 (.raw (.pointer none)) sc us pw hk hs hn hp port false pn pl hq q hf fg bare sp rst] k=(
 (List.length rst≤(300000:Nat)∧
 (ab rst rst (0:Nat)).2.2=false)∧
 ((!decide ((8:Int)=(0:Int)))=true→
 k (PV.int .i64 (8:Int)) [bT (PV.raw (Go.Value.pointer none)) 1 sc us pw hk hs hn hp port false pn pl hq q hf fg bare sp rst])∧
 ((!decide ((8:Int)=(0:Int)))=false→
 (false=true→
 False)∧
 (false=false→
 (decide (sc=(ByteArray.mk #[102,105,108,101]).data.toList)=true→
 False)∧
 (decide (sc=(ByteArray.mk #[102,105,108,101]).data.toList)=false→
 (bare=false→
 (sp=true→
 True∧
 (false=false→
 false=true→
 True)∧
 (false=true→
 False)∧
 (false=false→
 (sp=true→
 False)∧
 (sp=false→
 False)))∧
 (sp=!true→
 (false=false→
 false=true→
 True)∧
 (false=true→
 False)∧
 (false=false→
 (sp=true→
 False)∧
 (sp=false→
 False))))∧
 (bare=!false→
 ((!false)=false→
 false=true→
 True)∧
 (true=true→
 False)∧
 (true=false→
 (sp=true→
 False)∧
 (sp=false→
 False))))))):=by kernel_rfl
attribute [local irreducible] Go.Vc.cB Go.Vc.bQ
theorem yy(sc us pw:Bs)(hk:Int)(hs:Bs)(hn:Int)(hp:List Int)(port:Int)(pn:Bool)(pl:List Bs)(hq:Bool)(q:Bs)(hf:Bool)(fg:Bs)(bare sp:Bool)(rst:Bs):bt Tryz.prog aA 47 [.ptr 0 0] [aE 1 (.raw (.pointer none)) sc us pw hk hs hn hp port false pn pl hq q hf fg bare sp rst] (rst.length≤300000∧(ab rst rst 0).2.2=false) (.int .i64 (RS.mk sc us pw hk hs hn hp port false pn pl hq q hf fg bare sp rst).ao.2) [aE 0 (.raw (.pointer none)) ((RS.mk sc us pw hk hs hn hp port false pn pl hq q hf fg bare sp rst).ao.1.sc) ((RS.mk sc us pw hk hs hn hp port false pn pl hq q hf fg bare sp rst).ao.1.us) ((RS.mk sc us pw hk hs hn hp port false pn pl hq q hf fg bare sp rst).ao.1.pw) ((RS.mk sc us pw hk hs hn hp port false pn pl hq q hf fg bare sp rst).ao.1.hk) ((RS.mk sc us pw hk hs hn hp port false pn pl hq q hf fg bare sp rst).ao.1.hs) ((RS.mk sc us pw hk hs hn hp port false pn pl hq q hf fg bare sp rst).ao.1.hn) ((RS.mk sc us pw hk hs hn hp port false pn pl hq q hf fg bare sp rst).ao.1.hp) ((RS.mk sc us pw hk hs hn hp port false pn pl hq q hf fg bare sp rst).ao.1.port) ((RS.mk sc us pw hk hs hn hp port false pn pl hq q hf fg bare sp rst).ao.1.opq) ((RS.mk sc us pw hk hs hn hp port false pn pl hq q hf fg bare sp rst).ao.1.pn) ((RS.mk sc us pw hk hs hn hp port false pn pl hq q hf fg bare sp rst).ao.1.pl) ((RS.mk sc us pw hk hs hn hp port false pn pl hq q hf fg bare sp rst).ao.1.hq) ((RS.mk sc us pw hk hs hn hp port false pn pl hq q hf fg bare sp rst).ao.1.q) ((RS.mk sc us pw hk hs hn hp port false pn pl hq q hf fg bare sp rst).ao.1.hf) ((RS.mk sc us pw hk hs hn hp port false pn pl hq q hf fg bare sp rst).ao.1.fg) ((RS.mk sc us pw hk hs hn hp port false pn pl hq q hf fg bare sp rst).ao.1.bare) ((RS.mk sc us pw hk hs hn hp port false pn pl hq q hf fg bare sp rst).ao.1.sp) ((RS.mk sc us pw hk hs hn hp port false pn pl hq q hf fg bare sp rst).ao.1.rst)]:=uO (by kernel_rfl) yx (H:=yw sc us pw hk hs hn hp port pn pl hq q hf fg bare sp rst) (fuel:=1000) Tryz.func47 (by kernel_rfl) (Nat.le_of_ble_eq_true rfl) fun hpre=>(El sc us pw hk hs hn hp port pn pl hq q hf fg bare sp rst _).mpr (by
 have e:(RS.mk sc us pw hk hs hn hp port false pn pl hq q hf fg bare sp rst).ao=((RS.mk sc us pw hk hs hn hp port false pn pl hq q hf fg bare sp rst),8):=by
  unfold RS.ao
  rw [show(RS.mk sc us pw hk hs hn hp port false pn pl hq q hf fg bare sp rst).dx=((RS.mk sc us pw hk hs hn hp port false pn pl hq q hf fg bare sp rst),8)from if_neg (by show ¬(ab rst rst 0).2.2=true;rw [hpre.2];decide)]
  rfl
 rw [e]
 exact ⟨hpre,fun _=>⟨rfl,rfl⟩,fun h=>absurd h (by decide)⟩)
end
theorem yz(sc us pw:Bs)(hk:Int)(hs:Bs)(hn:Int)(hp:List Int)(port:Int)(pn:Bool)(pl:List Bs)(hq:Bool)(q:Bs)(hf:Bool)(fg:Bs)(bare sp:Bool)(rst:Bs):bt Tryz.prog aA 47 [.ptr 0 0] [aE 1 (.raw (.pointer none)) sc us pw hk hs hn hp port false pn pl hq q hf fg bare sp rst] (rst.length≤300000∧pl.length≤100000) (.int .i64 (RS.mk sc us pw hk hs hn hp port false pn pl hq q hf fg bare sp rst).ao.2) [aE 0 (.raw (.pointer none)) ((RS.mk sc us pw hk hs hn hp port false pn pl hq q hf fg bare sp rst).ao.1.sc) ((RS.mk sc us pw hk hs hn hp port false pn pl hq q hf fg bare sp rst).ao.1.us) ((RS.mk sc us pw hk hs hn hp port false pn pl hq q hf fg bare sp rst).ao.1.pw) ((RS.mk sc us pw hk hs hn hp port false pn pl hq q hf fg bare sp rst).ao.1.hk) ((RS.mk sc us pw hk hs hn hp port false pn pl hq q hf fg bare sp rst).ao.1.hs) ((RS.mk sc us pw hk hs hn hp port false pn pl hq q hf fg bare sp rst).ao.1.hn) ((RS.mk sc us pw hk hs hn hp port false pn pl hq q hf fg bare sp rst).ao.1.hp) ((RS.mk sc us pw hk hs hn hp port false pn pl hq q hf fg bare sp rst).ao.1.port) ((RS.mk sc us pw hk hs hn hp port false pn pl hq q hf fg bare sp rst).ao.1.opq) ((RS.mk sc us pw hk hs hn hp port false pn pl hq q hf fg bare sp rst).ao.1.pn) ((RS.mk sc us pw hk hs hn hp port false pn pl hq q hf fg bare sp rst).ao.1.pl) ((RS.mk sc us pw hk hs hn hp port false pn pl hq q hf fg bare sp rst).ao.1.hq) ((RS.mk sc us pw hk hs hn hp port false pn pl hq q hf fg bare sp rst).ao.1.q) ((RS.mk sc us pw hk hs hn hp port false pn pl hq q hf fg bare sp rst).ao.1.hf) ((RS.mk sc us pw hk hs hn hp port false pn pl hq q hf fg bare sp rst).ao.1.fg) ((RS.mk sc us pw hk hs hn hp port false pn pl hq q hf fg bare sp rst).ao.1.bare) ((RS.mk sc us pw hk hs hn hp port false pn pl hq q hf fg bare sp rst).ao.1.sp) ((RS.mk sc us pw hk hs hn hp port false pn pl hq q hf fg bare sp rst).ao.1.rst)]:=fun hpre=>by
 cases hb:(ab rst rst 0).2.2 with
 |true=>exact yu sc us pw hk hs hn hp port pn pl hq q hf fg bare sp rst ⟨hpre.1,hpre.2,hb⟩
 |false=>exact yy sc us pw hk hs hn hp port pn pl hq q hf fg bare sp rst ⟨hpre.1,hb⟩
def Em:PV→PV
 |.row true (.strs []) 0=>.row true (.strs []) 1
 |y=>y
theorem yA {G:Gh}{w:World}{y:PV}{u:Value}(h:aR y G w u):aR (Em y) G w u:=by
 unfold Em
 split
 ·rcases h with⟨h1,h2,h3⟩|⟨h1,-⟩
  ·exact .inl ⟨h1,h2,h3⟩
  ·cases h1
 ·exact h
theorem yB(y:PV):(Em y).wid=y.wid:=by
 unfold Em
 split<;>rfl
theorem yC(sc us pw:Bs)(hk:Int)(hs:Bs)(hn:Int)(hp:List Int)(port:Int)(hq:Bool)(q:Bs)(hf:Bool)(fg:Bs)(bare sp:Bool)(rst:Bs):bt Tryz.prog aA 47 [.ptr 0 0] [aE 0 (.raw (.pointer none)) sc us pw hk hs hn hp port false true [] hq q hf fg bare sp rst] (rst.length≤300000) (.int .i64 (RS.mk sc us pw hk hs hn hp port false true ([]:List Bs) hq q hf fg bare sp rst).ao.2) [aE 0 (.raw (.pointer none)) ((RS.mk sc us pw hk hs hn hp port false true ([]:List Bs) hq q hf fg bare sp rst).ao.1.sc) ((RS.mk sc us pw hk hs hn hp port false true ([]:List Bs) hq q hf fg bare sp rst).ao.1.us) ((RS.mk sc us pw hk hs hn hp port false true ([]:List Bs) hq q hf fg bare sp rst).ao.1.pw) ((RS.mk sc us pw hk hs hn hp port false true ([]:List Bs) hq q hf fg bare sp rst).ao.1.hk) ((RS.mk sc us pw hk hs hn hp port false true ([]:List Bs) hq q hf fg bare sp rst).ao.1.hs) ((RS.mk sc us pw hk hs hn hp port false true ([]:List Bs) hq q hf fg bare sp rst).ao.1.hn) ((RS.mk sc us pw hk hs hn hp port false true ([]:List Bs) hq q hf fg bare sp rst).ao.1.hp) ((RS.mk sc us pw hk hs hn hp port false true ([]:List Bs) hq q hf fg bare sp rst).ao.1.port) ((RS.mk sc us pw hk hs hn hp port false true ([]:List Bs) hq q hf fg bare sp rst).ao.1.opq) ((RS.mk sc us pw hk hs hn hp port false true ([]:List Bs) hq q hf fg bare sp rst).ao.1.pn) ((RS.mk sc us pw hk hs hn hp port false true ([]:List Bs) hq q hf fg bare sp rst).ao.1.pl) ((RS.mk sc us pw hk hs hn hp port false true ([]:List Bs) hq q hf fg bare sp rst).ao.1.hq) ((RS.mk sc us pw hk hs hn hp port false true ([]:List Bs) hq q hf fg bare sp rst).ao.1.q) ((RS.mk sc us pw hk hs hn hp port false true ([]:List Bs) hq q hf fg bare sp rst).ao.1.hf) ((RS.mk sc us pw hk hs hn hp port false true ([]:List Bs) hq q hf fg bare sp rst).ao.1.fg) ((RS.mk sc us pw hk hs hn hp port false true ([]:List Bs) hq q hf fg bare sp rst).ao.1.bare) ((RS.mk sc us pw hk hs hn hp port false true ([]:List Bs) hq q hf fg bare sp rst).ao.1.sp) ((RS.mk sc us pw hk hs hn hp port false true ([]:List Bs) hq q hf fg bare sp rst).ao.1.rst)]:=fun hpre F w vs bs τ hF hT hw hb hτ hl hx=>
 yz sc us pw hk hs hn hp port true [] hq q hf fg bare sp rst ⟨hpre,Nat.zero_le _⟩ F w vs bs τ hF hT hw hb hτ ⟨hl.len,hl.nd,hl.bF,hl.mks,hl.inj,fun i x hx=>by
  cases i with
  |succ i=>cases hx
  |zero=>
   injection hx with hx
   subst hx
   obtain ⟨b,h1,u,e,fz,g1,g2,g3,g4,g5⟩:=hl.box 0 _ rfl
   exact ⟨b,h1,u,e,fz,g1,g2,aR.map (f:=Em) (fun y v _ hy=>yA hy) (fun y _=>yB y) g3,g4,g5⟩⟩ hx
theorem En(sc us pw:Bs)(hk:Int)(hs:Bs)(hn:Int)(hp:List Int)(port:Int)(hq:Bool)(q:Bs)(hf:Bool)(fg:Bs)(bare sp:Bool)(rst:Bs):ag Tryz.prog aA 47 [.ptr 0 0,aE 0 (.raw (.pointer none)) sc us pw hk hs hn hp port false true [] hq q hf fg bare sp rst] ⟨rst.length≤300000,.tup [.int .i64 (RS.mk sc us pw hk hs hn hp port false true ([]:List Bs) hq q hf fg bare sp rst).ao.2,aE 0 (.raw (.pointer none)) ((RS.mk sc us pw hk hs hn hp port false true ([]:List Bs) hq q hf fg bare sp rst).ao.1.sc) ((RS.mk sc us pw hk hs hn hp port false true ([]:List Bs) hq q hf fg bare sp rst).ao.1.us) ((RS.mk sc us pw hk hs hn hp port false true ([]:List Bs) hq q hf fg bare sp rst).ao.1.pw) ((RS.mk sc us pw hk hs hn hp port false true ([]:List Bs) hq q hf fg bare sp rst).ao.1.hk) ((RS.mk sc us pw hk hs hn hp port false true ([]:List Bs) hq q hf fg bare sp rst).ao.1.hs) ((RS.mk sc us pw hk hs hn hp port false true ([]:List Bs) hq q hf fg bare sp rst).ao.1.hn) ((RS.mk sc us pw hk hs hn hp port false true ([]:List Bs) hq q hf fg bare sp rst).ao.1.hp) ((RS.mk sc us pw hk hs hn hp port false true ([]:List Bs) hq q hf fg bare sp rst).ao.1.port) ((RS.mk sc us pw hk hs hn hp port false true ([]:List Bs) hq q hf fg bare sp rst).ao.1.opq) ((RS.mk sc us pw hk hs hn hp port false true ([]:List Bs) hq q hf fg bare sp rst).ao.1.pn) ((RS.mk sc us pw hk hs hn hp port false true ([]:List Bs) hq q hf fg bare sp rst).ao.1.pl) ((RS.mk sc us pw hk hs hn hp port false true ([]:List Bs) hq q hf fg bare sp rst).ao.1.hq) ((RS.mk sc us pw hk hs hn hp port false true ([]:List Bs) hq q hf fg bare sp rst).ao.1.q) ((RS.mk sc us pw hk hs hn hp port false true ([]:List Bs) hq q hf fg bare sp rst).ao.1.hf) ((RS.mk sc us pw hk hs hn hp port false true ([]:List Bs) hq q hf fg bare sp rst).ao.1.fg) ((RS.mk sc us pw hk hs hn hp port false true ([]:List Bs) hq q hf fg bare sp rst).ao.1.bare) ((RS.mk sc us pw hk hs hn hp port false true ([]:List Bs) hq q hf fg bare sp rst).ao.1.sp) ((RS.mk sc us pw hk hs hn hp port false true ([]:List Bs) hq q hf fg bare sp rst).ao.1.rst)]⟩:=ag.bg (fun h=>by have e:List.isEmpty (PV.aB PV.bD [.ptr 0 0,aE 0 (.raw (.pointer none)) sc us pw hk hs hn hp port false true [] hq q hf fg bare sp rst])=false:=(by kernel_rfl);exact Bool.noConfusion (e.symm.trans (congrArg List.isEmpty h))) (yC sc us pw hk hs hn hp port hq q hf fg bare sp rst)
def lK:List PV→Option aG:=fun xs=>match xs with
 |[.ptr 0 0,aE 0 (.raw (.pointer none)) sc us pw hk hs hn hp port false true [] hq q hf fg bare sp rst]=>some ⟨rst.length≤300000,.tup [.int .i64 (RS.mk sc us pw hk hs hn hp port false true ([]:List Bs) hq q hf fg bare sp rst).ao.2,aE 0 (.raw (.pointer none)) ((RS.mk sc us pw hk hs hn hp port false true ([]:List Bs) hq q hf fg bare sp rst).ao.1.sc) ((RS.mk sc us pw hk hs hn hp port false true ([]:List Bs) hq q hf fg bare sp rst).ao.1.us) ((RS.mk sc us pw hk hs hn hp port false true ([]:List Bs) hq q hf fg bare sp rst).ao.1.pw) ((RS.mk sc us pw hk hs hn hp port false true ([]:List Bs) hq q hf fg bare sp rst).ao.1.hk) ((RS.mk sc us pw hk hs hn hp port false true ([]:List Bs) hq q hf fg bare sp rst).ao.1.hs) ((RS.mk sc us pw hk hs hn hp port false true ([]:List Bs) hq q hf fg bare sp rst).ao.1.hn) ((RS.mk sc us pw hk hs hn hp port false true ([]:List Bs) hq q hf fg bare sp rst).ao.1.hp) ((RS.mk sc us pw hk hs hn hp port false true ([]:List Bs) hq q hf fg bare sp rst).ao.1.port) ((RS.mk sc us pw hk hs hn hp port false true ([]:List Bs) hq q hf fg bare sp rst).ao.1.opq) ((RS.mk sc us pw hk hs hn hp port false true ([]:List Bs) hq q hf fg bare sp rst).ao.1.pn) ((RS.mk sc us pw hk hs hn hp port false true ([]:List Bs) hq q hf fg bare sp rst).ao.1.pl) ((RS.mk sc us pw hk hs hn hp port false true ([]:List Bs) hq q hf fg bare sp rst).ao.1.hq) ((RS.mk sc us pw hk hs hn hp port false true ([]:List Bs) hq q hf fg bare sp rst).ao.1.q) ((RS.mk sc us pw hk hs hn hp port false true ([]:List Bs) hq q hf fg bare sp rst).ao.1.hf) ((RS.mk sc us pw hk hs hn hp port false true ([]:List Bs) hq q hf fg bare sp rst).ao.1.fg) ((RS.mk sc us pw hk hs hn hp port false true ([]:List Bs) hq q hf fg bare sp rst).ao.1.bare) ((RS.mk sc us pw hk hs hn hp port false true ([]:List Bs) hq q hf fg bare sp rst).ao.1.sp) ((RS.mk sc us pw hk hs hn hp port false true ([]:List Bs) hq q hf fg bare sp rst).ao.1.rst)]⟩
 |_=>none
theorem sE:∀xs c,lK xs=some c→ag Tryz.prog aA 47 xs c:=fun xs c h=>by
 unfold lK at h
 split at h
 ·injection h with h;subst h;exact En _ _ _ _ _ _ _ _ _ _ _ _ _ _ _
 ·cases h
section
theorem ky(l:Bs):(an l).length≤4*l.length:=by
 have h1:=qU l
 have h2:(cO (aK l)).length≤(aK l).length:=(List.dropWhile_sublist _).length_le
 have h3:(dT (cO (aK l))).length≤(cO (aK l)).length:=by
  unfold dT
  rw [List.length_reverse]
  exact Nat.le_trans (List.dropWhile_sublist _).length_le (by rw [List.length_reverse];exact Nat.le_refl _)
 have h4:(an l).length≤(dT (cO (aK l))).length:=List.length_filter_le _ _
 omega
def Cm:cp:=bP [(46,kv),(47,lK)]
def Cn(l:Bs):ba:=fun i=>none
theorem A2:cR Tryz.prog aA Cm:=ai mI (ai sE (ax))
theorem Hh(l:Bs)(k:PV→Prop):cB Tryz.prog Cm aA (Cn l) 1000 Tryz.f30 [.str l,.raw (.pointer none)] k=(
 (decide ((1048576:Int)<ak l)=true→
 k
 (PV.tup
 [bE (0:Nat) [] [] [] (0:Int) [] (0:Int) (List.replicate (8:Nat) (0:Int)) (0:Int) false true [] false [] false [],
 PV.int .i64 (6:Int)]))∧
 (decide ((1048576:Int)<ak l)=false→
 (List.length l).le (60000:Nat)∧
 (List.length (an l)).le (300000:Nat)∧
 ((!decide
 ((RS.mk [] [] [] (0:Int) [] (0:Int) (List.replicate (8:Nat) (0:Int)) (-1:Int) false true []
 false [] false [] false false (an l)).ao.2=
 (0:Int)))=
 true→
 k
 (PV.tup
 [bE (0:Nat) [] [] [] (0:Int) [] (0:Int) (List.replicate (8:Nat) (0:Int)) (0:Int) false true [] false [] false [],
 PV.int .i64
 (RS.mk [] [] [] (0:Int) [] (0:Int) (List.replicate (8:Nat) (0:Int)) (-1:Int) false true []
 false [] false [] false false (an l)).ao.2]))∧
 ((!decide
 ((RS.mk [] [] [] (0:Int) [] (0:Int) (List.replicate (8:Nat) (0:Int)) (-1:Int) false true []
 false [] false [] false false (an l)).ao.2=
 (0:Int)))=
 false→
 k
 (PV.tup
 [bE (0:Nat) (RS.mk [] [] [] (0:Int) [] (0:Int) (List.replicate (8:Nat) (0:Int)) (-1:Int) false true []
 false [] false [] false false (an l)).ao.1.sc (RS.mk [] [] [] (0:Int) [] (0:Int) (List.replicate (8:Nat) (0:Int)) (-1:Int) false true []
 false [] false [] false false (an l)).ao.1.us (RS.mk [] [] [] (0:Int) [] (0:Int) (List.replicate (8:Nat) (0:Int)) (-1:Int) false true []
 false [] false [] false false (an l)).ao.1.pw (RS.mk [] [] [] (0:Int) [] (0:Int) (List.replicate (8:Nat) (0:Int)) (-1:Int) false
 true [] false [] false [] false false (an l)).ao.1.hk (RS.mk [] [] [] (0:Int) [] (0:Int) (List.replicate (8:Nat) (0:Int)) (-1:Int) false
 true [] false [] false [] false false (an l)).ao.1.hs (RS.mk [] [] [] (0:Int) [] (0:Int) (List.replicate (8:Nat) (0:Int)) (-1:Int) false
 true [] false [] false [] false false (an l)).ao.1.hn (RS.mk [] [] [] (0:Int) [] (0:Int) (List.replicate (8:Nat) (0:Int)) (-1:Int) false
 true [] false [] false [] false false (an l)).ao.1.hp (RS.mk [] [] [] (0:Int) [] (0:Int) (List.replicate (8:Nat) (0:Int)) (-1:Int) false true []
 false [] false [] false false (an l)).ao.1.port (RS.mk [] [] [] (0:Int) [] (0:Int) (List.replicate (8:Nat) (0:Int)) (-1:Int) false true []
 false [] false [] false false (an l)).ao.1.opq (RS.mk [] [] [] (0:Int) [] (0:Int) (List.replicate (8:Nat) (0:Int)) (-1:Int) false true []
 false [] false [] false false (an l)).ao.1.pn (RS.mk [] [] [] (0:Int) [] (0:Int) (List.replicate (8:Nat) (0:Int)) (-1:Int) false true
 [] false [] false [] false false (an l)).ao.1.pl (RS.mk [] [] [] (0:Int) [] (0:Int) (List.replicate (8:Nat) (0:Int)) (-1:Int) false true []
 false [] false [] false false (an l)).ao.1.hq (RS.mk [] [] [] (0:Int) [] (0:Int) (List.replicate (8:Nat) (0:Int)) (-1:Int) false true []
 false [] false [] false false (an l)).ao.1.q (RS.mk [] [] [] (0:Int) [] (0:Int) (List.replicate (8:Nat) (0:Int)) (-1:Int) false true []
 false [] false [] false false (an l)).ao.1.hf (RS.mk [] [] [] (0:Int) [] (0:Int) (List.replicate (8:Nat) (0:Int)) (-1:Int) false true []
 false [] false [] false false (an l)).ao.1.fg,
 PV.int .i64 (0:Int)])))):=by kernel_rfl
attribute [local irreducible] Go.Vc.cB
theorem Hi(l:Bs):ag Tryz.prog aA 30 [.str l,.raw (.pointer none)] ⟨l.length≤60000,.tup [bE 0 ((bm l).1).sc ((bm l).1).us ((bm l).1).pw ((bm l).1).hk ((bm l).1).hs ((bm l).1).hn ((bm l).1).hp ((bm l).1).port ((bm l).1).opq ((bm l).1).pn ((bm l).1).pl ((bm l).1).hq ((bm l).1).q ((bm l).1).hf ((bm l).1).fg,.int .i64 (bm l).2]⟩:=bY (by kernel_rfl) A2 (H:=Cn l) (fuel:=1000) Tryz.func30 (by kernel_rfl) fun hpre=>(Hh l _).mpr (by
 have hs:=ky l
 refine ⟨fun h=>absurd (of_decide_eq_true h) (by unfold ak;omega),fun _=>⟨show l.length≤60000 from hpre,show(an l).length≤300000 by omega,fun h=>?_,fun h=>?_⟩⟩
 ·have h2:(!decide ((RS.init (an l)).ao.2=0))=true:=h
  have h':¬(RS.init (an l)).ao.2=0:=fun e=>by rw [decide_eq_true e]at h2;cases h2
  have e:bm l=(KY,(RS.init (an l)).ao.2):=if_neg h'
  rw [e];rfl
 ·have h2:(!decide ((RS.init (an l)).ao.2=0))=false:=h
  have h':(RS.init (an l)).ao.2=0:=Classical.byContradiction fun e=>by rw [decide_eq_false e]at h2;cases h2
  have e:bm l=(RS.init (an l)).ao:=if_pos h'
  rw [e,h'];rfl)
def ou:List PV→Option aG:=fun xs=>match xs with
 |[.str l,.raw (.pointer none)]=>some ⟨l.length≤60000,.tup [bE 0 ((bm l).1).sc ((bm l).1).us ((bm l).1).pw ((bm l).1).hk ((bm l).1).hs ((bm l).1).hn ((bm l).1).hp ((bm l).1).port ((bm l).1).opq ((bm l).1).pn ((bm l).1).pl ((bm l).1).hq ((bm l).1).q ((bm l).1).hf ((bm l).1).fg,.int .i64 (bm l).2]⟩
 |_=>none
theorem vX:∀xs c,ou xs=some c→ag Tryz.prog aA 30 xs c:=fun xs c h=>by
 unfold ou at h
 split at h
 ·injection h with h;subst h;exact Hi _
 ·cases h
end
section
def yD:cp:=bP [(30,ou)]
def yE(l:Bs):ba:=fun i=>none
theorem yF:cR Tryz.prog aA yD:=ai vX (ax)
theorem Eo(l:Bs)(k:PV→Prop):cB Tryz.prog yD aA (yE l) 1000 Tryz.f19 [.str l] k=(
 (List.length l).le (60000:Nat)∧
 k
 (PV.tup
 [bE (0:Nat) (bm l).1.sc (bm l).1.us (bm l).1.pw (bm l).1.hk (bm l).1.hs (bm l).1.hn (bm l).1.hp (bm l).1.port (bm l).1.opq (bm l).1.pn (bm l).1.pl (bm l).1.hq (bm l).1.q (bm l).1.hf (bm l).1.fg,
 PV.int .i64 (bm l).2])):=by kernel_rfl
attribute [local irreducible] Go.Vc.cB
theorem Ep(l:Bs):ag Tryz.prog aA 19 [.str l] ⟨l.length≤60000,.tup [bE 0 ((bm l).1).sc ((bm l).1).us ((bm l).1).pw ((bm l).1).hk ((bm l).1).hs ((bm l).1).hn ((bm l).1).hp ((bm l).1).port ((bm l).1).opq ((bm l).1).pn ((bm l).1).pl ((bm l).1).hq ((bm l).1).q ((bm l).1).hf ((bm l).1).fg,.int .i64 (bm l).2]⟩:=bY (by kernel_rfl) yF (H:=yE l) (fuel:=1000) Tryz.func19 (by kernel_rfl) fun hpre=>(Eo l _).mpr (by
 exact ⟨hpre,rfl⟩)
end
section
def yG:cp:=bP []
def yH(nl:Bool)(a:List Bs)(nm:Bool)(b:List Bs):ba:=fun i=>bif Nat.beq i 4 then some ⟨(Int),(fun s x=>(((s.put 5 (.int .i64 x)).put 14 .undef).put 25 .undef)),(fun s=>s.int 5),(fun s x=>let i:=x;0≤i∧i≤a.length∧a.take i.toNat=b.take i.toNat),(fun s x=>let i:=x;((a.length:Int)-i).toNat),[14,25]⟩else none
theorem yI:cR Tryz.prog aA yG:=ax
theorem Er(nl:Bool)(a:List Bs)(nm:Bool)(b:List Bs)(k:PV→Prop):cB Tryz.prog yG aA (yH nl a nm b) 1000 Tryz.f32 [.row nl (.strs a) 0,.row nm (.strs b) 0] k=(
 ((!decide (Int.ofNat a.length=Int.ofNat b.length))=true→k (PV.bool false))∧
 ((!decide (Int.ofNat a.length=Int.ofNat b.length))=false→
 VS.mk []
 [(0,PV.row nl (ar.strs a) (0:Nat)),(1,PV.row nm (ar.strs b) (0:Nat)),
 (4,PV.bool false),(5,PV.int .i64 (0:Int)),
 (10,PV.bool !decide (Int.ofNat a.length=Int.ofNat b.length)),((14:Nat),PV.undef),((25:Nat),PV.undef)]
 []=
 VS.mk []
 [(0,PV.row nl (ar.strs a) (0:Nat)),(1,PV.row nm (ar.strs b) (0:Nat)),
 (4,PV.bool false),((5:Nat),PV.int .i64 (0:Int)),
 (10,PV.bool !decide (Int.ofNat a.length=Int.ofNat b.length)),((14:Nat),PV.undef),((25:Nat),PV.undef)]
 []∧
 ((0:Int)≤(0:Int)∧(0:Int)≤↑a.length∧List.take (Int.toNat (0:Int)) a=List.take (Int.toNat (0:Int)) b)∧
 ∀(x:Int),
 (0:Int)≤x∧x≤↑a.length∧List.take x.toNat a=List.take x.toNat b→
 (decide (x<Int.ofNat a.length)=true→
 within x (Int.ofNat a.length)∧
 within x (Int.ofNat b.length)∧
 ((!decide (eH a x=eH b x))=true→k (PV.bool false))∧
 ((!decide (eH a x=eH b x))=false→
 aD (x+(1:Int))∧
 rV (VS.mk []
 [(0,PV.row nl (ar.strs a) (0:Nat)),(1,PV.row nm (ar.strs b) (0:Nat)),
 (4,PV.bool false),((5:Nat),PV.int .i64 (x+(1:Int))),
 (10,PV.bool !decide (Int.ofNat a.length=Int.ofNat b.length)),((14:Nat),PV.undef),
 ((25:Nat),PV.undef)]
 [])∧
 ((0:Int)≤x+(1:Int)∧x+(1:Int)≤↑a.length∧List.take (x+(1:Int)).toNat a=List.take (x+(1:Int)).toNat b)∧
 (↑a.length-(x+(1:Int))).toNat<(↑a.length-x).toNat))∧
 (decide (x<Int.ofNat a.length)=false→k (PV.bool true)))):=by kernel_rfl
attribute [local irreducible] Go.Vc.cB
theorem Es(nl:Bool)(a:List Bs)(nm:Bool)(b:List Bs):ag Tryz.prog aA 32 [.row nl (.strs a) 0,.row nm (.strs b) 0] ⟨a.length≤1000000,.bool (decide (a=b))⟩:=bY (by kernel_rfl) yI (H:=yH nl a nm b) (fuel:=1000) Tryz.func32 (by kernel_rfl) fun hpre=>(Er nl a nm b _).mpr (by
 refine ⟨fun h=>?_,fun h=>⟨rfl,⟨by omega,by omega,rfl⟩,fun x ⟨h0,h1,h2⟩=>⟨fun g=>?_,fun g=>?_⟩⟩⟩
 ·rw [decide_eq_false]
  intro e;rw [e]at h;simp at h
 ·have hl:a.length=b.length:=by
   cases e:decide (Int.ofNat a.length=Int.ofNat b.length)with
   |true=>exact Int.ofNat.inj (of_decide_eq_true e)
   |false=>rw [e]at h;cases h
  have hlt:x<a.length:=of_decide_eq_true g
  have ea:a.take (x+1).toNat=a.take x.toNat++[eH a x]:=by
   rw [show(x+1).toNat=x.toNat+1 by omega,List.take_succ_eq_append_getElem (by omega)]
   unfold eH;rw [List.getD_eq_getElem?_getD,List.getElem?_eq_getElem (by omega)];rfl
  have eb:b.take (x+1).toNat=b.take x.toNat++[eH b x]:=by
   rw [show(x+1).toNat=x.toNat+1 by omega,List.take_succ_eq_append_getElem (by omega)]
   unfold eH;rw [List.getD_eq_getElem?_getD,List.getElem?_eq_getElem (by omega)];rfl
  refine ⟨⟨h0,hlt⟩,⟨h0,show x<(b.length:Int) by omega⟩,fun g2=>?_,fun g2=>⟨by unfold aD;omega,rfl,⟨by omega,by omega,?_⟩,by omega⟩⟩
  ·rw [decide_eq_false]
   intro e;subst e;simp at g2
  ·have e:eH a x=eH b x:=by
    cases e:decide (eH a x=eH b x)with
    |true=>exact of_decide_eq_true e
    |false=>rw [e]at g2;cases g2
   rw [ea,eb,h2,e]
 ·have hl:a.length=b.length:=by
   cases e:decide (Int.ofNat a.length=Int.ofNat b.length)with
   |true=>exact Int.ofNat.inj (of_decide_eq_true e)
   |false=>rw [e]at h;cases h
  have hge:¬x<a.length:=of_decide_eq_false g
  rw [List.take_of_length_le (by omega),List.take_of_length_le (by omega)]at h2
  rw [decide_eq_true h2])
def lL:List PV→Option aG:=fun xs=>match xs with
 |[.row nl (.strs a) 0,.row nm (.strs b) 0]=>some ⟨a.length≤1000000,.bool (decide (a=b))⟩
 |_=>none
theorem sF:∀xs c,lL xs=some c→ag Tryz.prog aA 32 xs c:=fun xs c h=>by
 unfold lL at h
 split at h
 ·injection h with h;subst h;exact Es _ _ _ _
 ·cases h
end
section
def kR(a b:RS):Prop:=a.sc=b.sc∧a.us=b.us∧a.pw=b.pw∧a.hk=b.hk∧a.hs=b.hs∧a.hn=b.hn∧a.hp=b.hp∧a.port=b.port∧a.opq=b.opq∧a.pl=b.pl∧a.hq=b.hq∧a.q=b.q∧a.hf=b.hf∧a.fg=b.fg
instance (a b:RS):Decidable (kR a b):=by unfold kR;infer_instance
def Co:cp:=bP [(32,lL)]
def Cp(asc aus apw:Bs)(ahk:Int)(ahs:Bs)(ahn:Int)(ahp:List Int)(aport:Int)(aopq apn:Bool)(apl:List Bs)(ahq:Bool)(aq:Bs)(ahf:Bool)(afg:Bs)(bsc bus bpw:Bs)(bhk:Int)(bhs:Bs)(bhn:Int)(bhp:List Int)(bport:Int)(bopq bpn:Bool)(bpl:List Bs)(bhq:Bool)(bq:Bs)(bhf:Bool)(bfg:Bs):ba:=fun i=>none
theorem A3:cR Tryz.prog aA Co:=ai sF (ax)
theorem Hj(asc aus apw:Bs)(ahk:Int)(ahs:Bs)(ahn:Int)(ahp:List Int)(aport:Int)(aopq apn:Bool)(apl:List Bs)(ahq:Bool)(aq:Bs)(ahf:Bool)(afg:Bs)(bsc bus bpw:Bs)(bhk:Int)(bhs:Bs)(bhn:Int)(bhp:List Int)(bport:Int)(bopq bpn:Bool)(bpl:List Bs)(bhq:Bool)(bq:Bs)(bhf:Bool)(bfg:Bs)(k:PV→Prop):cB Tryz.prog Co aA (Cp asc aus apw ahk ahs ahn ahp aport aopq apn apl ahq aq ahf afg bsc bus bpw bhk bhs bhn bhp bport bopq bpn bpl bhq bq bhf bfg) 1000 Tryz.f22 [bE 0 asc aus apw ahk ahs ahn ahp aport aopq apn apl ahq aq ahf afg,bE 0 bsc bus bpw bhk bhs bhn bhp bport bopq bpn bpl bhq bq bhf bfg] k=(
 ((bif
 bif
 bif bif bif decide (asc=bsc)then decide (aus=bus)else false then decide (apw=bpw)else false then
 Bool.rec false (decide (ahs=bhs)&&(decide (ahn=bhn)&&(decide (ahp=bhp)&&true))) (decide (ahk=bhk))
 else false then
 decide (aport=bport)
 else false then
 decide (aopq=bopq)
 else false)=
 true→
 apl.length.le (1000000:Nat))∧
 k
 (PV.bool
 (bif
 bif
 bif
 bif
 bif
 bif
 bif
 bif bif bif decide (asc=bsc)then decide (aus=bus)else false then decide (apw=bpw)else false then
 Bool.rec false (decide (ahs=bhs)&&(decide (ahn=bhn)&&(decide (ahp=bhp)&&true))) (decide (ahk=bhk))
 else false then
 decide (aport=bport)
 else false then
 decide (aopq=bopq)
 else false then
 decide (apl=bpl)
 else false then
 decide (ahq=bhq)
 else false then
 decide (aq=bq)
 else false then
 decide (ahf=bhf)
 else false then
 decide (afg=bfg)
 else false))):=by kernel_rfl
attribute [local irreducible] Go.Vc.cB
theorem Hk(asc aus apw:Bs)(ahk:Int)(ahs:Bs)(ahn:Int)(ahp:List Int)(aport:Int)(aopq apn:Bool)(apl:List Bs)(ahq:Bool)(aq:Bs)(ahf:Bool)(afg:Bs)(bsc bus bpw:Bs)(bhk:Int)(bhs:Bs)(bhn:Int)(bhp:List Int)(bport:Int)(bopq bpn:Bool)(bpl:List Bs)(bhq:Bool)(bq:Bs)(bhf:Bool)(bfg:Bs):ag Tryz.prog aA 22 [bE 0 asc aus apw ahk ahs ahn ahp aport aopq apn apl ahq aq ahf afg,bE 0 bsc bus bpw bhk bhs bhn bhp bport bopq bpn bpl bhq bq bhf bfg] ⟨apl.length≤1000000,.bool (decide (kR (RS.mk asc aus apw ahk ahs ahn ahp aport aopq apn apl ahq aq ahf afg false false []) (RS.mk bsc bus bpw bhk bhs bhn bhp bport bopq bpn bpl bhq bq bhf bfg false false [])))⟩:=bY (by kernel_rfl) A3 (H:=Cp asc aus apw ahk ahs ahn ahp aport aopq apn apl ahq aq ahf afg bsc bus bpw bhk bhs bhn bhp bport bopq bpn bpl bhq bq bhf bfg) (fuel:=1000) Tryz.func22 (by kernel_rfl) fun hpre=>(Hj asc aus apw ahk ahs ahn ahp aport aopq apn apl ahq aq ahf afg bsc bus bpw bhk bhs bhn bhp bport bopq bpn bpl bhq bq bhf bfg _).mpr (by
 have p1:=hpre
 have recE:∀x y:Bool,Bool.rec false y x=(x&&y):=fun x y=>by cases x<;>rfl
 refine ⟨fun _=>p1,?_⟩
 refine congrArg PV.bool ?_
 rw [Bool.eq_iff_iff]
 simp only [recE,FZ,Bool.and_eq_true,decide_eq_true_eq,and_true,and_assoc]
 exact Iff.rfl)
def ov:List PV→Option aG:=fun xs=>match xs with
 |[bE 0 asc aus apw ahk ahs ahn ahp aport aopq apn apl ahq aq ahf afg,bE 0 bsc bus bpw bhk bhs bhn bhp bport bopq bpn bpl bhq bq bhf bfg]=>some ⟨apl.length≤1000000,.bool (decide (kR (RS.mk asc aus apw ahk ahs ahn ahp aport aopq apn apl ahq aq ahf afg false false []) (RS.mk bsc bus bpw bhk bhs bhn bhp bport bopq bpn bpl bhq bq bhf bfg false false [])))⟩
 |_=>none
theorem vY:∀xs c,ov xs=some c→ag Tryz.prog aA 22 xs c:=fun xs c h=>by
 unfold ov at h
 split at h
 ·injection h with h;subst h;exact Hk _ _ _ _ _ _ _ _ _ _ _ _ _ _ _ _ _ _ _ _ _ _ _ _ _ _ _ _ _ _
 ·cases h
end
theorem rO(a b:Bs){i:Nat}(h:i<a.length):aM (a++b) i=aM a i:=by
 unfold aM;simp [List.getD,List.getElem?_append_left h]
theorem A4(a:Bs)(c:UInt8)(b:Bs):aM (a++c::b) a.length=c.toNat:=by
 unfold aM;simp [List.getD]
theorem Hl(a:Bs)(c:UInt8)(b:Bs)(hc:c.toNat<128):∀(j i:Nat) (r lo hi:Int),i≤a.length→128≤lo→nl (a++c::b) j i r lo hi=nl a j i r lo hi
 |0,i,r,lo,hi,_,_=>rfl
 |j+1,i,r,lo,hi,h,hlo=>by
  by_cases hl:i<a.length
  ·have hb:=rO a (c::b) hl
   have hl2:i<(a++c::b).length:=by rw [List.length_append];omega
   by_cases g:lo≤aM a i∧aM a i≤hi
   ·rw [gH ⟨hl,g⟩,gH ⟨hl2,by rw [hb];exact g⟩,hb]
    exact Hl a c b hc j (i+1) _ 128 191 (by omega) (by omega)
   ·rw [mi (fun e=>g e.2),mi (fun e=>g (by rw [←hb];exact e.2))]
  ·have e:i=a.length:=by omega
   subst e
   rw [mi (l:=a++c::b) (fun e=>by have:=e.2.1;rw [A4]at this;omega),mi (l:=a) (fun e=>by omega)]
theorem Et {a:Bs}(c:UInt8)(b:Bs)(hc:c.toNat<128)(h:0<a.length):bc (a++c::b)=bc a:=by
 have hb:=rO a (c::b) h
 unfold bc
 rw [hb,if_neg (by rw [List.length_append];omega),if_neg (show ¬a.length=0 by omega)]
 rcases nJ (aM a 0)with e|⟨m,lo,hi,e,-,-,h3,-⟩
 ·rw [e];rfl
 ·rw [e]
  dsimp only
  rw [Hl a c b hc _ 1 _ _ _ (by omega) h3]
theorem Hm(c:UInt8)(b:Bs)(hc:c.toNat<128):∀(n:Nat) (a:Bs),a.length≤n→eL (a++c::b)=eL a++(c.toNat:Int)::eL b:=by
 have h1:eL (c::b)=(c.toNat:Int)::eL b:=by
  rw [dV (by simp),uR (by simp) (by rw [dh];omega),dh];rfl
 intro n
 induction n with
 |zero=>
  intro a h
  have:a=[]:=List.eq_nil_of_length_eq_zero (by omega)
  subst this
  rw [List.nil_append,h1];rfl
 |succ n ih=>
  intro a h
  by_cases h0:a.length=0
  ·have:a=[]:=List.eq_nil_of_length_eq_zero h0
   subst this
   rw [List.nil_append,h1];rfl
  ·have hn:=eE a (by omega)
   rw [dV (by rw [List.length_append];omega),dV (l:=a) (by omega),Et c b hc (by omega),List.drop_append_of_le_length hn.2.1,ih _ (by rw [List.length_drop];omega)]
   rfl
theorem Eu(a:Bs)(c:UInt8)(b:Bs)(hc:c.toNat<128):aK (a++c::b)=aK a++c::aK b:=by
 unfold aK
 rw [Hm c b hc _ a (Nat.le_refl _),oL]
 congr 1
 show encR (iK _)++_=_
 have h:iK (c.toNat:Int)=c.toNat:=uS ⟨by omega,by omega,by omega⟩
 rw [h]
 unfold encR
 rw [if_pos (by omega),te]
 rfl
theorem ui(l:Bs)(h:0<l.length):encR (iK (bc l).1)=l.take (bc l).2.1∨encR (iK (bc l).1)=[239,191,189]:=by
 cases hv:(bc l).2.2 with
 |true=>
  obtain ⟨h1,h2,-⟩:=ll (l:=l) (r:=(bc l).1) (n:=(bc l).2.1) (by rw [←hv])
  rw [uS h1];exact .inl h2
 |false=>
  rw [((eE l h).2.2.2 hv).1]
  exact .inr (by decide)
theorem lM(l:Bs)(h:0<l.length):aK l=encR (iK (bc l).1)++aK (l.drop (bc l).2.1):=by
 unfold aK;rw [dV h];rfl
theorem uj:∀(n:Nat) (l:Bs),l.length≤n→∀b∈aK l,b∈l∨128≤b.toNat:=by
 intro n
 induction n with
 |zero=>
  intro l h b hb
  have:l=[]:=List.eq_nil_of_length_eq_zero (by omega)
  subst this;cases hb
 |succ n ih=>
  intro l h b hb
  by_cases h0:l.length=0
  ·have:l=[]:=List.eq_nil_of_length_eq_zero h0
   subst this;cases hb
  ·have hn:=eE l (by omega)
   rw [lM l (by omega)]at hb
   rcases List.mem_append.1 hb with hb|hb
   ·rcases ui l (by omega)with e|e
    ·rw [e]at hb;exact .inl (List.mem_of_mem_take hb)
    ·rw [e]at hb
     right
     have:∀x:UInt8,x∈([239,191,189]:Bs)→128≤x.toNat:=by decide
     exact this b hb
   ·rcases ih _ (by rw [List.length_drop];omega) b hb with h1|h1
    ·exact .inl (List.mem_of_mem_drop h1)
    ·exact .inr h1
theorem A5:∀(n:Nat) (l:Bs),l.length≤n→∀y,(aK l).getLast?=some y→l.getLast?=some y∨128≤y.toNat:=by
 intro n
 induction n with
 |zero=>
  intro l h y hy
  have:l=[]:=List.eq_nil_of_length_eq_zero (by omega)
  subst this;cases hy
 |succ n ih=>
  intro l h y hy
  by_cases h0:l.length=0
  ·have:l=[]:=List.eq_nil_of_length_eq_zero h0
   subst this;cases hy
  ·have hn:=eE l (by omega)
   rw [lM l (by omega)]at hy
   by_cases hd:l.drop (bc l).2.1=[]
   ·rw [hd]at hy
    have ht:l.take (bc l).2.1=l:=List.take_of_length_le (List.drop_eq_nil_iff.1 hd)
    rw [show aK []=[]from rfl,List.append_nil]at hy
    rcases ui l (by omega)with e|e
    ·rw [e,ht]at hy;exact .inl hy
    ·rw [e]at hy
     right
     have:y=189:=by simpa using hy.symm
     subst this;decide
   ·have hp:aK (l.drop (bc l).2.1)≠[]:=by
     rw [lM _ (List.length_pos_iff.2 hd)]
     intro e
     have h1:=congrArg List.length e
     have h2:=wX (iK (bc (l.drop (bc l).2.1)).1)
     rw [List.length_append,List.length_nil]at h1
     omega
    obtain ⟨z,hz⟩:∃z,(aK (l.drop (bc l).2.1)).getLast?=some z:=by
     cases hq:(aK (l.drop (bc l).2.1)).getLast? with
     |none=>exact absurd (List.getLast?_eq_none_iff.1 hq) hp
     |some z=>exact ⟨z,rfl⟩
    rw [List.getLast?_append,hz]at hy
    have hy:(aK (l.drop (bc l).2.1)).getLast?=some y:=by rw [hz];exact hy
    rcases ih _ (by rw [List.length_drop];omega) y hy with h1|h1
    ·left
     rw [←List.take_append_drop (bc l).2.1 l,List.getLast?_append,h1];rfl
    ·exact .inr h1
theorem yJ(l:Bs):aK (aK l)=aK l:=my (C5 _).2
theorem A6(k:Int)(l:Bs):bl k (aK l)=bl k l:=by unfold bl;rw [yJ]
theorem rP {l:Bs}{y:UInt8}(h:l.getLast?=some y)(hy:32<y.toNat):dT l=l:=by
 unfold dT
 rw [←List.head?_reverse]at h
 cases hr:l.reverse with
 |nil=>rw [hr]at h;cases h
 |cons b t=>
  rw [hr]at h
  injection h with h
  subst h
  rw [List.dropWhile_cons_of_neg (by unfold vn;rw [decide_eq_true_iff];omega),←hr,List.reverse_reverse]
theorem A7 {l:Bs}(h:∀b,l.head?=some b→32<b.toNat):cO l=l:=by
 unfold cO
 cases l with
 |nil=>rfl
 |cons b t=>
  have:=h b rfl
  rw [List.dropWhile_cons_of_neg (by unfold vn;rw [decide_eq_true_iff];omega)]
theorem Hn {l:Bs}(h:∀b∈l,32≤b.toNat):l.filter (fun b=>!jC b)=l:=by
 rw [List.filter_eq_self]
 intro b hb
 have:=h b hb
 unfold jC
 rw [Bool.not_eq_true',decide_eq_false_iff_not]
 rintro (rfl|rfl|rfl)<;>revert this<;>decide
theorem rQ {k:Nat}(hk:k<128){s:Bs}(hs:∀b∈s,k<b.toNat):∀b∈aK s,k<b.toNat:=fun b hb=>by
 rcases uj _ s (Nat.le_refl _) b hb with h|h
 ·exact hs b h
 ·omega
theorem Ho {s:Bs}(hs:∀b∈s,32<b.toNat):an s=aK s:=by
 have ps:=rQ (by omega) hs
 unfold an
 rw [xR ps,Gn ps,Hn fun b hb=>Nat.le_of_lt (ps b hb)]
theorem A8 {s f:Bs}(hs:∀b∈s,32<b.toNat)(hf:∀b∈f,31<b.toNat)(hl:f.getLast?≠some 32):an (s++35::f)=aK s++35::aK f:=by
 have ps:=rQ (by omega) hs
 have pf:=rQ (by omega) hf
 have e1:cO (aK s++35::aK f)=aK s++35::aK f:=A7 fun b hb=>by
  cases h:aK s with
  |nil=>rw [h]at hb;have:b=35:=by simpa using hb.symm
        subst this;decide
  |cons x t=>rw [h]at hb;have:b=x:=by simpa using hb.symm
             subst this;exact ps b (by rw [h];exact List.mem_cons_self ..)
 have e2:dT (aK s++35::aK f)=aK s++35::aK f:=by
  cases hp:(aK f).getLast? with
  |none=>
   rw [List.getLast?_eq_none_iff]at hp
   rw [hp]
   exact rP (y:=35) (by simp) (by decide)
  |some y=>
   refine rP (y:=y) (by rw [List.getLast?_append,List.getLast?_cons,hp];rfl) ?_
   rcases A5 _ f (Nat.le_refl _) y hp with h|h
   ·have h1:=hf y (List.mem_of_getLast? h)
    have h2:y.toNat≠32:=fun e=>hl (by rw [h];congr 1;exact UInt8.toNat_inj.1 (by rw [e];rfl))
    omega
   ·omega
 unfold an
 rw [Eu s 35 f (by decide),e1,e2,Hn fun b hb=>?_]
 rcases List.mem_append.1 hb with h|h
 ·exact Nat.le_of_lt (ps b h)
 ·rcases List.mem_cons.1 h with rfl|h
  ·decide
  ·exact pf b h
def RS.ext(r:RS)(g:Bs):RS:={r with rst:=r.rst++35::g}
def RS.fin(r:RS)(g:Bs):RS:={r with hf:=true,fg:=bl 1 g,rst:=g}
def cl(l:Bs):Prop:=∀b∈l,32<b.toNat∧b≠35
theorem fK {l:Bs}(h:cl l)(z:Int):cl (aa l z):=fun b hb=>h b (List.mem_of_mem_drop hb)
theorem yK {m:Bs}(t g:Bs)(hm:m.contains 35=true):bd (t++35::g) m=bd t m:=by
 unfold bd
 induction t with
 |nil=>rw [List.nil_append,List.findIdx_cons,hm];rfl
 |cons b t ih=>rw [List.cons_append,List.findIdx_cons,List.findIdx_cons,ih]
theorem iU(t g:Bs){n:Nat}(h:n≤t.length):ae (t++g) (n:Int)=ae t (n:Int):=by
 unfold ae;rw [Int.toNat_natCast,List.take_append_of_le_length h]
theorem iV(t g:Bs){n:Nat}(h:n≤t.length):aa (t++g) (n:Int)=aa t (n:Int)++g:=by
 unfold aa;rw [Int.toNat_natCast,List.drop_append_of_le_length h]
theorem Ev(t g:Bs){z:Int}(h0:0≤z)(h:z<t.length):al (t++g) z=al t z:=by
 unfold al
 simp [List.getD,List.getElem?_append_left (show z.toNat<t.length by omega)]
theorem gQ(sp:Bool)(t g:Bs){z:Int}(h0:0≤z)(h:z≤t.length):az sp (t++35::g) z=az sp t z:=by
 unfold az
 by_cases hz:z<t.length
 ·rw [Ev t _ h0 hz,decide_eq_true (show z<ak t from hz),decide_eq_true (show z<ak (t++35::g) by unfold ak;rw [List.length_append];omega)]
 ·have e:z=(t.length:Int):=by omega
  have e2:al (t++35::g) z=35:=by unfold al;rw [e];simp [List.getD]
  rw [e2,decide_eq_false (show ¬z<ak t from hz)]
  cases sp<;>simp
theorem vZ(r:RS)(g:Bs):(r.ext g).shl=r.shl.ext g:=by
 unfold RS.shl RS.ext
 dsimp only
 rw [gQ _ _ _ (by omega) (by omega)]
 by_cases h:az r.sp r.rst 0=true
 ·have:=gK h
  rw [if_pos h,if_pos h,show(1:Int)=((1:Nat):Int)from rfl,iV _ _ (by omega)]
 ·rw [if_neg h,if_neg h]
theorem A9(sp:Bool)(g:Bs):∀(k:Nat) (t:Bs) (n:Int),t.length≤k→aC (t++35::g).length sp n (t++35::g)=aC t.length sp n t++35::g:=by
 intro k
 induction k with
 |zero=>
  intro t n h
  have:t=[]:=List.eq_nil_of_length_eq_zero (by omega)
  subst this
  rw [pM (l:=[]++35::g) (by rw [gQ _ _ _ (by omega) (by simp)];rintro ⟨h,-⟩;have:=gK h;simp at this)]
  rfl
 |succ k ih=>
  intro t n h
  by_cases hh:az sp t 0=true∧(sp=true∨n<2)
  ·have hp:=gK hh.1
   have hl:=nW hp
   rw [qR hh,qR (l:=t++35::g) (by rw [gQ _ _ _ (by omega) (by omega)];exact hh),show(1:Int)=((1:Nat):Int)from rfl,iV _ _ (by omega)]
   exact ih _ _ (by have:(aa t ((1:Nat):Int)).length+1=t.length:=hl
                    omega)
  ·rw [pM hh,pM (l:=t++35::g) (by rw [gQ _ _ _ (by omega) (by omega)];exact hh)]
theorem Hp(r:RS)(g:Bs):(r.ext g).skip=r.skip.ext g:=by
 unfold RS.skip RS.ext
 dsimp only
 rw [A9 _ _ _ _ _ (Nat.le_refl _)]
theorem rR(sp:Bool)(t g:Bs):ah sp (t++35::g)=ah sp t:=yK t g (by cases sp<;>rfl)
theorem yL(t g:Bs):aF (t++35::g)=aF t:=yK t g rfl
theorem mX(r:RS)(g:Bs){n:Nat}(h:n≤r.rst.length):(r.ext g).cut (n:Int)=(r.cut (n:Int)).ext g:=by
 unfold RS.cut RS.ext
 dsimp only
 rw [iV _ _ h]
theorem v7(r:RS)(s l:Bs):({r with rst:=l}:RS).aZ s=({(r.aZ s).1 with rst:=l},(r.aZ s).2):=by
 unfold RS.aZ
 dsimp only
 by_cases h1:bj s=0∨s=[]∧r.sp=true
 ·rw [if_pos h1,if_pos h1]
 ·rw [if_neg h1,if_neg h1]
  (repeat' split)<;>rfl
theorem im(r:RS)(s:Bs):(r.aZ s).1.rst=r.rst∧(r.aZ s).1.sp=r.sp:=by
 unfold RS.aZ
 dsimp only
 (repeat' split)<;>exact ⟨rfl,rfl⟩
theorem Hq(x:RS)(g s:Bs):(x.ext g).aZ s=((x.aZ s).1.ext g,(x.aZ s).2):=(v7 x s _).trans (by unfold RS.ext;rw [(im x s).1])
theorem Hr(r:RS):r.aU.1.rst=aa r.rst (ah r.sp r.rst)∧r.aU.1.sp=r.sp:=by
 unfold RS.aU
 dsimp only
 split
 ·split
  ·exact ⟨rfl,rfl⟩
  ·exact im _ _
 ·exact im _ _
theorem Hs(r:RS)(g:Bs):(r.ext g).aU=(r.aU.1.ext g,r.aU.2):=by
 have hl:ah r.sp r.rst≤r.rst.length:=db _ _
 have e0:ah (r.ext g).sp (r.ext g).rst=ah r.sp r.rst:=rR r.sp r.rst g
 have e1:ae (r.ext g).rst (ah r.sp r.rst:Int)=ae r.rst (ah r.sp r.rst:Int):=iU _ _ hl
 unfold RS.aU
 dsimp only
 rw [e0,e1,mX r g hl]
 split
 ·split
  ·rfl
  ·exact Hq ({r.cut (ah r.sp r.rst:Int)with us:=_,pw:=_}:RS) g _
 ·exact Hq _ g _
theorem mY(r:RS)(g:Bs):(r.ext g).path=r.path.ext g:=by
 have hl:aF r.rst≤r.rst.length:=db _ _
 unfold RS.path RS.ext
 dsimp only
 rw [yL,iU _ _ hl,iV _ _ hl]
theorem v8(r:RS)(g:Bs):(r.ext g).av=(r.av.1.ext g,r.av.2):=by
 have hl:ah r.sp r.rst≤r.rst.length:=db _ _
 have e0:ah (r.ext g).sp (r.ext g).rst=ah r.sp r.rst:=rR r.sp r.rst g
 have e1:ae (r.ext g).rst (ah r.sp r.rst:Int)=ae r.rst (ah r.sp r.rst:Int):=iU _ _ hl
 unfold RS.av
 dsimp only
 rw [e0,e1,mX r g hl]
 split
 ·rfl
 ·split<;>rfl
theorem wa(r:RS):r.av.1.rst=aa r.rst (ah r.sp r.rst):=by
 unfold RS.av
 dsimp only
 split
 ·rfl
 ·split<;>rfl
theorem Ba(r:RS)(g:Bs)(hr:cl r.rst):(r.ext g).gZ=r.gZ.ext g:=by
 have hl:aF r.rst≤r.rst.length:=db _ _
 have key:∀z:Bs,lB (ae r.rst (aF r.rst:Int)) z=bl 0 (ae r.rst (aF r.rst:Int)):=fun z=>by
  unfold lB
  rw [if_neg]
  rintro ⟨-,h1,h2⟩
  generalize hs:ae r.rst (aF r.rst:Int)=s at *
  have hm:s.getD ((s.length:Int)-1).toNat 0∈s:=by
   rw [List.getD_eq_getElem?_getD,List.getElem?_eq_getElem (by omega)]
   exact List.getElem_mem _
  rw [←hs]at hm
  have:=(hr _ (List.mem_of_mem_take hm)).1
  rw [hs]at this
  unfold al at h2
  omega
 unfold RS.gZ RS.ext
 dsimp only
 rw [yL,iU _ _ hl,iV _ _ hl,key,key]
theorem Ht(t g:Bs)(c:UInt8)(hc:c≠35):preB (t++35::g) [c]=preB t [c]:=by
 unfold preB
 cases t with
 |nil=>simp [Lib.hasPrefix,List.isPrefixOf,hc]
 |cons b t=>simp [Lib.hasPrefix,List.isPrefixOf]
theorem yM {l m:Bs}(h:preB l m=true):m.length≤l.length:=by
 unfold preB Lib.hasPrefix at h
 exact (List.isPrefixOf_iff_prefix.1 h).length_le
theorem pO:∀{t:Bs},cl t→aa t (aF t)=[]∨∃u,aa t (aF t)=63::u
 |[],_=>.inl rfl
 |b::t,h=>by
  have ih:=pO (t:=t) fun c hc=>h c (List.mem_cons_of_mem _ hc)
  have hb:=(h b (List.mem_cons_self ..)).2
  unfold aF bd at *
  rw [List.findIdx_cons]
  by_cases e:b=63
  ·subst e;exact .inr ⟨t,rfl⟩
  ·have:List.contains [63,35] b=false:=by simp [e,hb]
   rw [this]
   exact ih
theorem mZ(r:RS)(g:Bs)(hr:cl r.rst)(h:r.rst=[]∨∃u,r.rst=63::u):(r.ext g).tail=r.tail.fin g:=by
 have e0:aa (35::g) 1=g:=rfl
 rcases h with h|⟨u,h⟩
 ·have n1:preB (35::g) [63]=false:=rfl
  have n2:preB [] [63]=false:=rfl
  have n3:preB (35::g) [35]=true:=rfl
  have n4:preB [] [35]=false:=rfl
  have hx:(r.ext g).rst=35::g:=by unfold RS.ext;rw [h];rfl
  have q1:(r.ext g).query=r.ext g:=by unfold RS.query;rw [hx,n1,if_neg (by decide)]
  have q2:r.query=r:=by unfold RS.query;rw [h,n2,if_neg (by decide)]
  have q3:r.Al=r:=by unfold RS.Al;rw [h,n4,if_neg (by decide)]
  unfold RS.tail
  rw [q1,q2,q3]
  unfold RS.Al
  rw [hx,n3,if_pos rfl]
  rfl
 ·have hu:∀b∈u,List.contains [35] b=false:=fun b hb=>by
   have:=(hr b (by rw [h];exact List.mem_cons_of_mem _ hb)).2
   simp [this]
  have f1:sj (u++35::g)=u.length:=Gm hu rfl
  have f2:sj u=u.length:=DL hu
  have d1:aa (63::u++35::g) 1=u++35::g:=rfl
  have d2:aa (63::u) 1=u:=rfl
  have p1:preB (63::u++35::g) [63]=true:=rfl
  have p2:preB (63::u) [63]=true:=rfl
  have t1:ae (u++35::g) (u.length:Int)=u:=DM _ _
  have t2:aa (u++35::g) (u.length:Int)=35::g:=DN _ _
  have t3:ae u (u.length:Int)=u:=by unfold ae;simp
  have t4:aa u (u.length:Int)=[]:=by unfold aa;simp
  unfold RS.tail RS.query RS.ext
  rw [h]
  dsimp only
  rw [if_pos p1,if_pos p2,d1,d2,f1,f2,t1,t2,t3,t4]
  rfl
theorem Bb(t g:Bs):bz (t++35::g)=bz t:=by
 unfold bz
 cases t with
 |nil=>rfl
 |cons b t=>rfl
theorem wb {t:Bs}(ht:cl t)(h:bz t=true):t=[]∨∃u,t=63::u:=by
 cases t with
 |nil=>exact .inl rfl
 |cons b t=>
  right
  have hb:=(ht b (List.mem_cons_self ..)).2
  have e:al (b::t) 0=b.toNat:=rfl
  unfold bz at h
  rw [e]at h
  simp only [Bool.or_eq_true,decide_eq_true_eq]at h
  rcases h with h|h|h
  ·cases h
  ·have:b=63:=UInt8.toNat_inj.1 (by show b.toNat=63;omega)
   exact ⟨t,by rw [this]⟩
  ·exact absurd (UInt8.toNat_inj.1 (show b.toNat=(35:UInt8).toNat by show b.toNat=35;omega)) hb
def Fin(g:Bs)(p' p:RS×Int):Prop:=p'.2=p.2∧(p.2=0→p'.1=p.1.fin g)
theorem uk(r:RS)(g:Bs)(hr:cl r.rst):(r.ext g).path.tail=r.path.tail.fin g:=by
 rw [mY]
 exact mZ _ g (fK hr _) (pO hr)
theorem wc {r:RS}(hr:cl r.rst):cl r.shl.rst:=by
 unfold RS.shl
 dsimp only
 split
 ·exact fK hr _
 ·exact hr
theorem na(r:RS)(g:Bs)(hr:cl r.rst):Fin g (r.ext g).bX r.bX:=by
 have hc:cl r.aU.1.rst:=by rw [(Hr r).1];exact fK hr _
 unfold RS.bX
 rw [Hs]
 dsimp only
 by_cases h0:r.aU.2=0
 ·rw [if_pos h0,if_pos h0]
  have e:(r.aU.1.sp=false∧bz (r.aU.1.ext g).rst=true)↔(r.aU.1.sp=false∧bz r.aU.1.rst=true):=by
   rw [show(r.aU.1.ext g).rst=r.aU.1.rst++35::g from rfl,Bb]
  by_cases h1:r.aU.1.sp=false∧bz r.aU.1.rst=true
  ·rw [if_pos h1,if_pos (show(r.aU.1.ext g).sp=false∧_ from e.2 h1)]
   exact ⟨rfl,fun _=>mZ _ g hc (wb hc h1.2)⟩
  ·rw [if_neg h1,if_neg (show ¬((r.aU.1.ext g).sp=false∧_)from fun h=>h1 (e.1 h))]
   refine ⟨rfl,fun _=>?_⟩
   show(r.aU.1.ext g).shl.path.tail=_
   rw [vZ]
   exact uk _ g (wc hc)
 ·rw [if_neg h0,if_neg h0]
  exact ⟨rfl,fun h=>absurd h h0⟩
theorem Hu(r:RS)(g:Bs)(hr:cl r.rst):(r.ext g).aY=(r.aY.1.ext g,r.aY.2)∧cl r.aY.1.rst∧(r.aY.2=0→r.aY.1.rst=[]∨∃u,r.aY.1.rst=63::u):=by
 have e:(az r.sp (r.rst++35::g) 0=true∧az r.sp (r.rst++35::g) 1=true)↔(az r.sp r.rst 0=true∧az r.sp r.rst 1=true):=by
  rw [gQ _ _ _ (by omega) (by omega)]
  constructor
  ·rintro ⟨h1,h2⟩
   have:=gK h1
   rw [gQ _ _ _ (by omega) (by omega)]at h2
   exact ⟨h1,h2⟩
  ·rintro ⟨h1,h2⟩
   have:=gK h1
   rw [gQ _ _ _ (by omega) (by omega)]
   exact ⟨h1,h2⟩
 have pth:∀x:RS,cl x.rst→cl x.path.rst∧(x.path.rst=[]∨∃u,x.path.rst=63::u):=fun x hx=>⟨fK hx _,pO hx⟩
 have x1:∀x:RS,({x.ext g with hk:=1}:RS)=({x with hk:=1}:RS).ext g:=fun x=>rfl
 unfold RS.aY
 rw [x1 r]
 by_cases h:az r.sp r.rst 0=true∧az r.sp r.rst 1=true
 ·have hlen:2≤r.rst.length:=by have:=pL h.2;unfold ak at this;omega
  have hc2:(({r with hk:=1}:RS).ext g).cut 2=(({r with hk:=1}:RS).cut 2).ext g:=mX ({r with hk:=1}:RS) g (n:=2) hlen
  have hk2:cl (({r with hk:=1}:RS).cut 2).rst:=fK hr _
  dsimp only
  rw [if_pos (show az (r.ext g).sp (r.ext g).rst 0=true∧az (r.ext g).sp (r.ext g).rst 1=true from e.2 h),if_pos h,hc2]
  generalize ({r with hk:=1}:RS).cut 2=y at *
  have hl:ah y.sp y.rst≤y.rst.length:=db _ _
  have d1:ae (y.ext g).rst (ah (y.ext g).sp (y.ext g).rst:Int)=ae y.rst (ah y.sp y.rst:Int):=by
   rw [show ah (y.ext g).sp (y.ext g).rst=ah y.sp y.rst from rR y.sp y.rst g]
   exact iU _ _ hl
  rw [d1,mY,v8]
  by_cases hd:bL (ae y.rst (ah y.sp y.rst))=true
  ·rw [if_pos hd,if_pos hd]
   exact ⟨rfl,(pth y hk2).1,fun _=>(pth y hk2).2⟩
  ·rw [if_neg hd,if_neg hd]
   have hc3:cl y.av.1.rst:=by rw [wa];exact fK hk2 _
   by_cases h0:y.av.2=0
   ·dsimp only
    rw [if_pos h0,if_pos h0,vZ,mY]
    exact ⟨rfl,(pth _ (wc hc3)).1,fun _=>(pth _ (wc hc3)).2⟩
   ·dsimp only
    rw [if_neg h0,if_neg h0]
    exact ⟨rfl,hc3,fun h=>absurd h h0⟩
 ·dsimp only
  rw [if_neg (show ¬(az (r.ext g).sp (r.ext g).rst 0=true∧az (r.ext g).sp (r.ext g).rst 1=true)from fun h'=>h (e.1 h')),if_neg h,vZ,mY]
  have hs:cl ({r with hk:=1}:RS).shl.rst:=wc hr
  exact ⟨rfl,(pth _ hs).1,fun _=>(pth _ hs).2⟩
theorem yN(l g:Bs):∀(t:Bs) (i:Nat),i+t.length=l.length→
 ((ab l t i).2.2=true→ab (l++35::g) (t++35::g) i=((ab l t i).1,(ab l t i).2.1++35::g,true))∧((ab l t i).2.2=false→(ab (l++35::g) (t++35::g) i).2.2=false)
 |[],i,h=>by
  refine ⟨fun e=>(by cases e),fun _=>?_⟩
  show(if IV 35=true then _ else if i=0 then _ else if(35:UInt8).toNat=58 then _ else if(35:UInt8).toNat=43∨(35:UInt8).toNat=45∨(35:UInt8).toNat=46∨Dx 35=true then _ else _:Bs×Bs×Bool).2.2=false
  rw [if_neg (by decide)]
  split
  ·rfl
  ·rw [if_neg (by decide),if_neg (by decide)]
 |c::t,i,h=>by
  rw [List.length_cons]at h
  have ih:=yN l g t (i+1) (by omega)
  rw [List.cons_append,ab,ab]
  split
  ·exact ih
  ·split
   ·exact ⟨fun e=>(by cases e),fun _=>rfl⟩
   ·split
    ·refine ⟨fun _=>?_,fun e=>(by cases e)⟩
     rw [List.take_append_of_le_length (by omega),List.drop_append_of_le_length (by omega)]
    ·split
     ·exact ih
     ·exact ⟨fun e=>(by cases e),fun _=>rfl⟩
theorem we(l:Bs)(hl:cl l):∀(t:Bs) (i:Nat),cl (ab l t i).2.1
 |[],i=>fun b hb=>by cases hb
 |c::t,i=>by
  rw [ab]
  split
  ·exact we l hl t _
  ·split
   ·exact fun b hb=>by cases hb
   ·split
    ·exact fun b hb=>hl b (List.mem_of_mem_drop hb)
    ·split
     ·exact we l hl t _
     ·exact fun b hb=>by cases hb
theorem Ew(r:RS)(g:Bs)(hr:cl r.rst):Fin g (r.ext g).ao r.ao:=by
 have hs:=yN r.rst g r.rst 0 (by omega)
 have hc:=we r.rst hr r.rst 0
 cases hb:(ab r.rst r.rst 0).2.2 with
 |false=>
  have e1:r.dx=(r,8):=by unfold RS.dx;rw [if_neg (by rw [hb];decide)]
  have e2:(r.ext g).dx=(r.ext g,8):=by unfold RS.dx;rw [if_neg (by rw [show(ab (r.ext g).rst (r.ext g).rst 0).2.2=false from hs.2 hb];decide)]
  unfold RS.ao
  rw [e1,e2]
  dsimp only
  rw [if_neg (show ¬(8:Int)=0 by decide),if_neg (show ¬(8:Int)=0 by decide)]
  exact ⟨rfl,fun h=>absurd h (show ¬(8:Int)=0 by decide)⟩
 |true=>
  obtain ⟨S,hS⟩:∃S,(ab r.rst r.rst 0).1=S:=⟨_,rfl⟩
  obtain ⟨T,hT⟩:∃T,(ab r.rst r.rst 0).2.1=T:=⟨_,rfl⟩
  have hx:=hs.1 hb
  rw [hS,hT]at hx
  rw [hT]at hc
  obtain ⟨x,hX⟩:∃x:RS,x={r with rst:=T,bare:=false,sc:=S,sp:=ay S}:=⟨_,rfl⟩
  have e1:r.dx=(x,0):=by unfold RS.dx;rw [if_pos hb,hS,hT,hX]
  have e2:(r.ext g).dx=(x.ext g,0):=by
   unfold RS.dx
   rw [show ab (r.ext g).rst (r.ext g).rst 0=(S,T++35::g,true)from hx,if_pos rfl,hX]
   rfl
  have hxr:cl x.rst:=by rw [hX];exact hc
  clear hX hx hs hc hb hS hT
  unfold RS.ao
  rw [e1,e2]
  dsimp only
  rw [if_pos (rfl:(0:Int)=0),if_pos (rfl:(0:Int)=0)]
  by_cases h1:x.sc=fL
  ·rw [if_pos h1,if_pos (show(x.ext g).sc=fL from h1)]
   obtain ⟨f1,f2,f3⟩:=Hu x g hxr
   rw [f1]
   dsimp only
   by_cases h0:x.aY.2=0
   ·rw [if_pos h0,if_pos h0]
    exact ⟨rfl,fun _=>mZ _ g f2 (f3 h0)⟩
   ·rw [if_neg h0,if_neg h0]
    exact ⟨rfl,fun h=>absurd h h0⟩
  ·rw [if_neg h1,if_neg (show ¬(x.ext g).sc=fL from h1)]
   by_cases h2:x.sp=true
   ·rw [if_pos h2,if_pos (show(x.ext g).sp=true from h2),Hp]
    refine na _ g ?_
    unfold RS.skip
    dsimp only
    have:∀(k:Nat) (n:Int) (t:Bs),cl t→cl (aC k x.sp n t):=by
     intro k
     induction k with
     |zero=>intro n t h;exact h
     |succ k ih=>
      intro n t h
      rw [aC]
      split
      ·exact ih _ _ (fK h _)
      ·exact h
    exact this _ _ _ hxr
   ·rw [if_neg h2,if_neg (show ¬(x.ext g).sp=true from h2)]
    have p1:preB (x.ext g).rst [47]=preB x.rst [47]:=Ht x.rst g 47 (by decide)
    have p2:preB (x.ext g).rst [47,47]=preB x.rst [47,47]:=by
     show preB (x.rst++35::g) _=_
     unfold preB
     rcases x.rst with _ |⟨b,_ |⟨c,t⟩⟩<;>simp [Lib.hasPrefix,List.isPrefixOf]
    rw [p1,p2]
    by_cases h3:preB x.rst [47,47]=true
    ·have hlen:2≤x.rst.length:=yM h3
     rw [if_pos h3,if_pos h3,show(2:Int)=((2:Nat):Int)from rfl,mX x g hlen]
     exact na _ g (fK hxr _)
    ·rw [if_neg h3,if_neg h3]
     by_cases h4:preB x.rst [47]=true
     ·have hlen:1≤x.rst.length:=yM h4
      rw [if_pos h4,if_pos h4,show(1:Int)=((1:Nat):Int)from rfl,mX x g hlen]
      exact ⟨rfl,fun _=>uk _ g (fK hxr _)⟩
     ·rw [if_neg h4,if_neg h4,Ba x g hxr]
      exact ⟨rfl,fun _=>mZ _ g (fK hxr _) (pO hxr)⟩
theorem Hv {s f:Bs}(hs:∀b∈s,32<b.toNat∧b≠35)(hf:∀b∈f,31<b.toNat)(hl:f.getLast?≠some 32):
 (bm (s++35::f)).2=(bm s).2∧((bm s).2=0→(bm (s++35::f)).1=(bm s).1.fin (aK f))∧((bm s).2≠0→(bm (s++35::f)).1=KY):=by
 have e1:an s=aK s:=Ho fun b hb=>(hs b hb).1
 have e2:an (s++35::f)=aK s++35::aK f:=A8 (fun b hb=>(hs b hb).1) hf hl
 have hp:=Ew (RS.init (aK s)) (aK f) (show cl (aK s)from fun b hb=>by
  rcases uj _ s (Nat.le_refl _) b hb with h|h
  ·exact hs b h
  ·exact ⟨by omega,fun e=>by subst e;revert h;decide⟩)
 have e3:(RS.init (aK s)).ext (aK f)=RS.init (aK s++35::aK f):=rfl
 rw [e3]at hp
 obtain ⟨h1,h2⟩:=hp
 unfold bm L7
 rw [e1,e2,h1]
 by_cases h0:(RS.init (aK s)).ao.2=0
 ·rw [if_pos h0,if_pos h0]
  exact ⟨h1,fun _=>h2 h0,fun h=>absurd h0 h⟩
 ·rw [if_neg h0,if_neg h0]
  exact ⟨rfl,fun h=>absurd h h0,fun _=>rfl⟩
section
theorem um(sc m:Bs):∀(f:Nat) (s:Bs) (p:Pa),s.length<f→(oW sc m f s p).2.length≤p.2.length+s.length+1
 |0,_,_,h=>by omega
 |f+1,s,p,h=>by
  unfold oW
  split
  ·have:=n8 sc p s true
   omega
  ·have hl:=db s m
   have h1:=n8 sc p (s.take (bd s m)) false
   have h2:=um sc m f (s.drop (bd s m+1)) (cF sc p (s.take (bd s m)) false) (by rw [List.length_drop];omega)
   rw [List.length_drop]at h2
   omega
theorem Ey {α:Type}(l:List α)(z:Int):(ae l z).length≤l.length:=by unfold ae;rw [List.length_take];exact Nat.min_le_right _ _
theorem ow {α:Type}(l:List α)(z:Int):(aa l z).length≤l.length:=by unfold aa;rw [List.length_drop];omega
theorem JC(r:RS):r.path.pl.length≤r.pl.length+r.rst.length+1:=by
 unfold RS.path bC mH
 dsimp only
 have:=um r.sc (eY r.sp) ((ae r.rst (aF r.rst)).length+1) (ae r.rst (aF r.rst)) (r.pn,r.pl) (Nat.lt_succ_self _)
 have:=Ey r.rst (aF r.rst)
 dsimp only at *
 omega
def Sm(n:Nat)(r:RS):Prop:=r.pl=[]∧r.rst.length≤n
variable {n:Nat} {r:RS}
theorem Sm.cut(h:Sm n r)(z:Int):Sm n (r.cut z):=⟨h.1,Nat.le_trans (ow _ _) h.2⟩
theorem Sm.shl(h:Sm n r):Sm n r.shl:=⟨h.1,by
 unfold RS.shl
 dsimp only
 split
 ·exact Nat.le_trans (ow _ _) h.2
 ·exact h.2⟩
theorem rS(sp:Bool):∀(f:Nat) (k:Int) (l:Bs),(aC f sp k l).length≤l.length
 |0,_,_=>Nat.le_refl _
 |f+1,k,l=>by
  unfold aC
  split
  ·exact Nat.le_trans (rS sp f _ _) (ow _ _)
  ·exact Nat.le_refl _
theorem Sm.skip(h:Sm n r):Sm n r.skip:=⟨h.1,Nat.le_trans (rS _ _ _ _) h.2⟩
theorem Sm.aZ(h:Sm n r)(s:Bs):Sm n (r.aZ s).1:=by
 unfold RS.aZ
 dsimp only
 (repeat' split)<;>exact h
theorem Sm.aU(h:Sm n r):Sm n r.aU.1:=by
 unfold RS.aU
 dsimp only
 split
 ·split
  ·exact h.cut _
  ·refine Sm.aZ ?_ _
   exact ⟨h.1,(h.cut _).2⟩
 ·exact (h.cut _).aZ _
theorem Sm.av(h:Sm n r):Sm n r.av.1:=by
 unfold RS.av
 dsimp only
 (repeat' split)<;>exact h.cut _
theorem nc(r:RS):r.tail.pl=r.pl:=by
 unfold RS.tail RS.Al RS.query
 (repeat' split)<;>rfl
theorem Sm.path(h:Sm n r):r.path.pl.length≤n+1:=by
 have:=JC r
 have h1:=h.2
 rw [h.1]at this
 simp at this
 omega
theorem Sm.none(h:Sm n r):r.pl.length≤n+1:=by rw [h.1];simp
theorem Sm.bX(h:Sm n r):r.bX.1.pl.length≤n+1:=by
 unfold RS.bX
 split
 ·split
  ·rw [nc];exact h.aU.none
  ·rw [nc];exact h.aU.shl.path
 ·exact h.aU.none
theorem Sm.file(h:Sm n r):r.aY.1.pl.length≤n+1:=by
 have h1:Sm n ({r with hk:=1}:RS):=h
 unfold RS.aY
 dsimp only
 split
 ·split
  ·exact (h1.cut 2).path
  ·split
   ·exact (h1.cut 2).av.shl.path
   ·exact (h1.cut 2).av.none
 ·exact h1.shl.path
theorem wg(l:Bs):∀(t:Bs) (i:Nat),(ab l t i).2.1.length≤l.length
 |[],_=>Nat.zero_le _
 |c::t,i=>by
  rw [ab]
  (repeat' split)
  ·exact wg l t _
  ·exact Nat.zero_le _
  ·show(l.drop _).length≤_
   rw [List.length_drop];omega
  ·exact wg l t _
  ·exact Nat.zero_le _
theorem Sm.scheme(h:Sm n r):Sm n r.dx.1:=by
 unfold RS.dx
 split
 ·exact ⟨h.1,Nat.le_trans (wg _ _ _) h.2⟩
 ·exact h
theorem Sm.parts(h:Sm n r):r.ao.1.pl.length≤n+1:=by
 have hs:=h.scheme
 unfold RS.ao
 split
 ·dsimp only
  split
  ·split
   ·rw [nc];exact hs.file
   ·exact hs.file
  ·split
   ·exact hs.skip.bX
   ·split
    ·exact (hs.cut 2).bX
    ·split
     ·rw [nc];exact (hs.cut 1).path
     ·rw [nc]
      unfold RS.gZ
      show 1≤n+1
      omega
 ·exact hs.none
theorem Cq(l:Bs):(bm l).1.pl.length≤(an l).length+1:=by
 unfold bm L7
 split
 ·exact Sm.parts (n:=(an l).length) ⟨rfl,Nat.le_refl _⟩
 ·exact Nat.zero_le _
end
end Go.Proofs.YtmfapopclbnlpaaGreatDoor
