import Derived.Test.YtmfapopclbnlpaaGreatDoorProg
import Derived.ProofKit
import Derived.Test.YtmfapopclbnlpaaGreatDoorPt6
import Derived.Test.YtmfapopclbnlpaaGreatDoorPt18
import Derived.Test.YtmfapopclbnlpaaGreatDoorPt20
import Derived.Test.YtmfapopclbnlpaaGreatDoorPt25
set_option linter.unusedVariables false
set_option linter.unusedSimpArgs false
set_option maxRecDepth 100000
set_option maxHeartbeats 4000000
namespace Go.Proofs.YtmfapopclbnlpaaGreatDoor
open Go Go.Proofs Go.RowKit Go.Vc
section
theorem kD(r:RS)(s:Bs):(r.bO s).1={r with hk:=(r.bO s).1.hk,hs:=(r.bO s).1.hs,hn:=(r.bO s).1.hn,hp:=(r.bO s).1.hp,port:=(r.bO s).1.port}:=by
 unfold RS.bO
 dsimp only
 (repeat' split)<;>rfl
theorem Du(r:RS):r.ba.1={r with us:=r.ba.1.us,pw:=r.ba.1.pw,hk:=r.ba.1.hk,hs:=r.ba.1.hs,hn:=r.ba.1.hn,hp:=r.ba.1.hp,port:=r.ba.1.port,rst:=aa r.rst (ah r.sp r.rst)}:=by
 unfold RS.ba
 dsimp only
 split
 ·split
  ·rfl
  ·rw [kD];rfl
 ·rw [kD];rfl
theorem Ai(r:RS):r.bc.1={r with hk:=r.bc.1.hk,hs:=r.bc.1.hs,hn:=r.bc.1.hn,hp:=r.bc.1.hp,pn:=r.bc.1.pn,pl:=r.bc.1.pl,rst:=r.bc.1.rst}:=by
 unfold RS.bc
 dsimp only
 split
 ·split
  ·rfl
  ·split
   ·rw [eo];rfl
   ·rw [eo];rfl
 ·rfl
theorem qZ(r:RS):r.path.rst.length≤r.rst.length:=cO _ _
theorem vm(r:RS):r.av.1.rst.length≤r.rst.length:=by rw [eo];exact cO _ _
theorem Dv(r:RS):r.bc.1.rst.length≤r.rst.length:=by
 unfold RS.bc
 dsimp only
 split
 ·have h2:=cO r.rst 2
  split
  ·exact Nat.le_trans (qZ _) h2
  ·have h3:=vm (({r with hk:=1}:RS).cut 2)
   split
   ·exact Nat.le_trans (qZ _) (Nat.le_trans (mC _ _) (Nat.le_trans h3 h2))
   ·exact Nat.le_trans h3 h2
 ·exact Nat.le_trans (qZ _) (mC _ _)
theorem ra:∀(f:Nat) (sp:Bool) (n:Int) (l:Bs),(aB f sp n l).length≤l.length
 |0,_,_,l=>Nat.le_refl _
 |f+1,sp,n,l=>by
  unfold aB
  split
  ·exact Nat.le_trans (ra f sp (n+1) _) (cO _ _)
  ·exact Nat.le_refl _
theorem rb(l:Bs):∀(r:Bs) (i:Nat),(ab l r i).2.1.length≤l.length
 |[],_=>Nat.zero_le _
 |c::r,i=>by
  unfold ab
  split
  ·exact rb l r (i+1)
  ·split
   ·exact Nat.zero_le _
   ·split
    ·show(l.drop (i+1)).length≤_
     rw [List.length_drop];omega
    ·split
     ·exact rb l r (i+1)
     ·exact Nat.zero_le _
theorem gV(r:RS):r.tail={r with hq:=dU r.rst r.hq,q:=dV r.sp r.rst r.q,hf:=dW (bH r.rst) r.hf,fg:=dX (bH r.rst) r.fg,rst:=dY (bH r.rst)}:=by
 unfold RS.tail
 rw [IA,F7]
theorem iM(l:Bs):(bH l).length≤l.length:=by
 unfold bH
 split
 ·exact Nat.le_trans (cO _ _) (cO _ _)
 ·exact Nat.le_refl _
def nM(r:RS):PV:=(aC 0 (.raw (.pointer none)) (r.sc) (r.us) (r.pw) (r.hk) (r.hs) (r.hn) (r.hp) (r.port) (r.opq) (r.pn) (r.pl) (r.hq) (r.q) (r.hf) (r.fg) (r.bare) (r.sp) (r.rst))
def KT(o:RS×Int):PV→List PV→Prop:=fun v os=>v=.int .i64 o.2∧PV.bb (PV.aU cR) os=[nM o.1]
def Aj(k:PV→List PV→Prop)(sc us pw:Bs)(hk:Int)(hs:Bs)(hn:Int)(hp:List Int)(port:Int)(pn:Bool)(pl:List Bs)(hq:Bool)(q:Bs)(hf:Bool)(fg:Bs)(bare sp:Bool)(rst:Bs):Prop:=∀(x:RS),(RS.mk sc us pw hk hs hn hp port false pn pl hq q hf fg bare sp rst).ao=x.b9∧
 List.length x.rst≤(300000:Nat)∧
 x.pl.length≤(100000:Nat)→
 (List.length x.rst).le (300000:Nat)∧
 ((!decide (x.ba.2=(0:Int)))=true→
 k (PV.int .i64 x.ba.2) [bS (PV.raw (Go.Value.pointer none)) 1 x.sc (x.ba.1.us) (x.ba.1.pw) (x.ba.1.hk) (x.ba.1.hs) (x.ba.1.hn) (x.ba.1.hp) (x.ba.1.port) x.opq x.pn x.pl x.hq x.q x.hf x.fg x.bare x.sp (aa x.rst ↑(ah x.sp x.rst))])∧
 ((!decide (x.ba.2=(0:Int)))=false→
 ((!x.sp)=true→
 True∧
 (bN (aa x.rst ↑(ah x.sp x.rst))=true→
 (aa x.rst ↑(ah x.sp x.rst)).length.le (300000:Nat)∧
 (List.length (bH (aa x.rst ↑(ah x.sp x.rst)))).le (300000:Nat)∧
 k (PV.int .i64 (0:Int)) [bS (PV.raw (Go.Value.pointer none)) 1 x.sc (x.ba.1.us) (x.ba.1.pw) (x.ba.1.hk) (x.ba.1.hs) (x.ba.1.hn) (x.ba.1.hp) (x.ba.1.port) x.opq x.pn x.pl (dU (aa x.rst ↑(ah x.sp x.rst)) x.hq) (dV x.sp (aa x.rst ↑(ah x.sp x.rst)) x.q) (dW (bH (aa x.rst ↑(ah x.sp x.rst))) x.hf) (dX (bH (aa x.rst ↑(ah x.sp x.rst))) x.fg) x.bare x.sp (dY (bH (aa x.rst ↑(ah x.sp x.rst))))])∧
 (bN (aa x.rst ↑(ah x.sp x.rst))=false→
 True∧
 (List.length (if az x.sp (aa x.rst ↑(ah x.sp x.rst)) (0:Int)=true then aa (aa x.rst ↑(ah x.sp x.rst)) (1:Int)else aa x.rst ↑(ah x.sp x.rst))≤(300000:Nat)∧
 x.pl.length≤(100000:Nat))∧
 (aa (if az x.sp (aa x.rst ↑(ah x.sp x.rst)) (0:Int)=true then aa (aa x.rst ↑(ah x.sp x.rst)) (1:Int)else aa x.rst ↑(ah x.sp x.rst)) ↑(aE (if az x.sp (aa x.rst ↑(ah x.sp x.rst)) (0:Int)=true then aa (aa x.rst ↑(ah x.sp x.rst)) (1:Int)else aa x.rst ↑(ah x.sp x.rst)))).length.le (300000:Nat)∧
 (List.length (bH (aa (if az x.sp (aa x.rst ↑(ah x.sp x.rst)) (0:Int)=true then aa (aa x.rst ↑(ah x.sp x.rst)) (1:Int)else aa x.rst ↑(ah x.sp x.rst)) ↑(aE (if az x.sp (aa x.rst ↑(ah x.sp x.rst)) (0:Int)=true then aa (aa x.rst ↑(ah x.sp x.rst)) (1:Int)else aa x.rst ↑(ah x.sp x.rst)))))).le (300000:Nat)∧
 k (PV.int .i64 (0:Int)) [bS (PV.raw (Go.Value.pointer none)) 1 x.sc (x.ba.1.us) (x.ba.1.pw) (x.ba.1.hk) (x.ba.1.hs) (x.ba.1.hn) (x.ba.1.hp) (x.ba.1.port) x.opq ((bu x.sp x.sc (ae (if az x.sp (aa x.rst ↑(ah x.sp x.rst)) (0:Int)=true then aa (aa x.rst ↑(ah x.sp x.rst)) (1:Int)else aa x.rst ↑(ah x.sp x.rst)) ↑(aE (if az x.sp (aa x.rst ↑(ah x.sp x.rst)) (0:Int)=true then aa (aa x.rst ↑(ah x.sp x.rst)) (1:Int)else aa x.rst ↑(ah x.sp x.rst)))) (x.pn,x.pl)).1) ((bu x.sp x.sc (ae (if az x.sp (aa x.rst ↑(ah x.sp x.rst)) (0:Int)=true then aa (aa x.rst ↑(ah x.sp x.rst)) (1:Int)else aa x.rst ↑(ah x.sp x.rst)) ↑(aE (if az x.sp (aa x.rst ↑(ah x.sp x.rst)) (0:Int)=true then aa (aa x.rst ↑(ah x.sp x.rst)) (1:Int)else aa x.rst ↑(ah x.sp x.rst)))) (x.pn,x.pl)).2) (dU (aa (if az x.sp (aa x.rst ↑(ah x.sp x.rst)) (0:Int)=true then aa (aa x.rst ↑(ah x.sp x.rst)) (1:Int)else aa x.rst ↑(ah x.sp x.rst)) ↑(aE (if az x.sp (aa x.rst ↑(ah x.sp x.rst)) (0:Int)=true then aa (aa x.rst ↑(ah x.sp x.rst)) (1:Int)else aa x.rst ↑(ah x.sp x.rst)))) x.hq) (dV x.sp (aa (if az x.sp (aa x.rst ↑(ah x.sp x.rst)) (0:Int)=true then aa (aa x.rst ↑(ah x.sp x.rst)) (1:Int)else aa x.rst ↑(ah x.sp x.rst)) ↑(aE (if az x.sp (aa x.rst ↑(ah x.sp x.rst)) (0:Int)=true then aa (aa x.rst ↑(ah x.sp x.rst)) (1:Int)else aa x.rst ↑(ah x.sp x.rst)))) x.q) (dW (bH (aa (if az x.sp (aa x.rst ↑(ah x.sp x.rst)) (0:Int)=true then aa (aa x.rst ↑(ah x.sp x.rst)) (1:Int)else aa x.rst ↑(ah x.sp x.rst)) ↑(aE (if az x.sp (aa x.rst ↑(ah x.sp x.rst)) (0:Int)=true then aa (aa x.rst ↑(ah x.sp x.rst)) (1:Int)else aa x.rst ↑(ah x.sp x.rst))))) x.hf) (dX (bH (aa (if az x.sp (aa x.rst ↑(ah x.sp x.rst)) (0:Int)=true then aa (aa x.rst ↑(ah x.sp x.rst)) (1:Int)else aa x.rst ↑(ah x.sp x.rst)) ↑(aE (if az x.sp (aa x.rst ↑(ah x.sp x.rst)) (0:Int)=true then aa (aa x.rst ↑(ah x.sp x.rst)) (1:Int)else aa x.rst ↑(ah x.sp x.rst))))) x.fg) x.bare x.sp (dY (bH (aa (if az x.sp (aa x.rst ↑(ah x.sp x.rst)) (0:Int)=true then aa (aa x.rst ↑(ah x.sp x.rst)) (1:Int)else aa x.rst ↑(ah x.sp x.rst)) ↑(aE (if az x.sp (aa x.rst ↑(ah x.sp x.rst)) (0:Int)=true then aa (aa x.rst ↑(ah x.sp x.rst)) (1:Int)else aa x.rst ↑(ah x.sp x.rst))))))]))∧
 ((!x.sp)=!true→
 (false=true→
 (aa x.rst ↑(ah x.sp x.rst)).length.le (300000:Nat)∧
 (List.length (bH (aa x.rst ↑(ah x.sp x.rst)))).le (300000:Nat)∧
 k (PV.int .i64 (0:Int)) [bS (PV.raw (Go.Value.pointer none)) 1 x.sc (x.ba.1.us) (x.ba.1.pw) (x.ba.1.hk) (x.ba.1.hs) (x.ba.1.hn) (x.ba.1.hp) (x.ba.1.port) x.opq x.pn x.pl (dU (aa x.rst ↑(ah x.sp x.rst)) x.hq) (dV x.sp (aa x.rst ↑(ah x.sp x.rst)) x.q) (dW (bH (aa x.rst ↑(ah x.sp x.rst))) x.hf) (dX (bH (aa x.rst ↑(ah x.sp x.rst))) x.fg) x.bare x.sp (dY (bH (aa x.rst ↑(ah x.sp x.rst))))])∧
 (false=false→
 True∧
 (List.length (if az x.sp (aa x.rst ↑(ah x.sp x.rst)) (0:Int)=true then aa (aa x.rst ↑(ah x.sp x.rst)) (1:Int)else aa x.rst ↑(ah x.sp x.rst))≤(300000:Nat)∧
 x.pl.length≤(100000:Nat))∧
 (aa (if az x.sp (aa x.rst ↑(ah x.sp x.rst)) (0:Int)=true then aa (aa x.rst ↑(ah x.sp x.rst)) (1:Int)else aa x.rst ↑(ah x.sp x.rst)) ↑(aE (if az x.sp (aa x.rst ↑(ah x.sp x.rst)) (0:Int)=true then aa (aa x.rst ↑(ah x.sp x.rst)) (1:Int)else aa x.rst ↑(ah x.sp x.rst)))).length.le (300000:Nat)∧
 (List.length (bH (aa (if az x.sp (aa x.rst ↑(ah x.sp x.rst)) (0:Int)=true then aa (aa x.rst ↑(ah x.sp x.rst)) (1:Int)else aa x.rst ↑(ah x.sp x.rst)) ↑(aE (if az x.sp (aa x.rst ↑(ah x.sp x.rst)) (0:Int)=true then aa (aa x.rst ↑(ah x.sp x.rst)) (1:Int)else aa x.rst ↑(ah x.sp x.rst)))))).le (300000:Nat)∧
 k (PV.int .i64 (0:Int)) [bS (PV.raw (Go.Value.pointer none)) 1 x.sc (x.ba.1.us) (x.ba.1.pw) (x.ba.1.hk) (x.ba.1.hs) (x.ba.1.hn) (x.ba.1.hp) (x.ba.1.port) x.opq ((bu x.sp x.sc (ae (if az x.sp (aa x.rst ↑(ah x.sp x.rst)) (0:Int)=true then aa (aa x.rst ↑(ah x.sp x.rst)) (1:Int)else aa x.rst ↑(ah x.sp x.rst)) ↑(aE (if az x.sp (aa x.rst ↑(ah x.sp x.rst)) (0:Int)=true then aa (aa x.rst ↑(ah x.sp x.rst)) (1:Int)else aa x.rst ↑(ah x.sp x.rst)))) (x.pn,x.pl)).1) ((bu x.sp x.sc (ae (if az x.sp (aa x.rst ↑(ah x.sp x.rst)) (0:Int)=true then aa (aa x.rst ↑(ah x.sp x.rst)) (1:Int)else aa x.rst ↑(ah x.sp x.rst)) ↑(aE (if az x.sp (aa x.rst ↑(ah x.sp x.rst)) (0:Int)=true then aa (aa x.rst ↑(ah x.sp x.rst)) (1:Int)else aa x.rst ↑(ah x.sp x.rst)))) (x.pn,x.pl)).2) (dU (aa (if az x.sp (aa x.rst ↑(ah x.sp x.rst)) (0:Int)=true then aa (aa x.rst ↑(ah x.sp x.rst)) (1:Int)else aa x.rst ↑(ah x.sp x.rst)) ↑(aE (if az x.sp (aa x.rst ↑(ah x.sp x.rst)) (0:Int)=true then aa (aa x.rst ↑(ah x.sp x.rst)) (1:Int)else aa x.rst ↑(ah x.sp x.rst)))) x.hq) (dV x.sp (aa (if az x.sp (aa x.rst ↑(ah x.sp x.rst)) (0:Int)=true then aa (aa x.rst ↑(ah x.sp x.rst)) (1:Int)else aa x.rst ↑(ah x.sp x.rst)) ↑(aE (if az x.sp (aa x.rst ↑(ah x.sp x.rst)) (0:Int)=true then aa (aa x.rst ↑(ah x.sp x.rst)) (1:Int)else aa x.rst ↑(ah x.sp x.rst)))) x.q) (dW (bH (aa (if az x.sp (aa x.rst ↑(ah x.sp x.rst)) (0:Int)=true then aa (aa x.rst ↑(ah x.sp x.rst)) (1:Int)else aa x.rst ↑(ah x.sp x.rst)) ↑(aE (if az x.sp (aa x.rst ↑(ah x.sp x.rst)) (0:Int)=true then aa (aa x.rst ↑(ah x.sp x.rst)) (1:Int)else aa x.rst ↑(ah x.sp x.rst))))) x.hf) (dX (bH (aa (if az x.sp (aa x.rst ↑(ah x.sp x.rst)) (0:Int)=true then aa (aa x.rst ↑(ah x.sp x.rst)) (1:Int)else aa x.rst ↑(ah x.sp x.rst)) ↑(aE (if az x.sp (aa x.rst ↑(ah x.sp x.rst)) (0:Int)=true then aa (aa x.rst ↑(ah x.sp x.rst)) (1:Int)else aa x.rst ↑(ah x.sp x.rst))))) x.fg) x.bare x.sp (dY (bH (aa (if az x.sp (aa x.rst ↑(ah x.sp x.rst)) (0:Int)=true then aa (aa x.rst ↑(ah x.sp x.rst)) (1:Int)else aa x.rst ↑(ah x.sp x.rst)) ↑(aE (if az x.sp (aa x.rst ↑(ah x.sp x.rst)) (0:Int)=true then aa (aa x.rst ↑(ah x.sp x.rst)) (1:Int)else aa x.rst ↑(ah x.sp x.rst))))))])))
def IB(k:PV→List PV→Prop)(sc us pw:Bs)(hk:Int)(hs:Bs)(hn:Int)(hp:List Int)(port:Int)(pn:Bool)(pl:List Bs)(hq:Bool)(q:Bs)(hf:Bool)(fg:Bs)(bare sp:Bool)(rst:Bs):Prop:=∀(x:RS),(RS.mk sc us pw hk hs hn hp port false pn pl hq q hf fg bare sp rst).ao=(x.path.tail,(0:Int))∧
 List.length x.rst≤(300000:Nat)∧
 x.pl.length≤(100000:Nat)→
 (List.length x.rst≤(300000:Nat)∧
 x.pl.length≤(100000:Nat))∧
 (aa x.rst ↑(aE x.rst)).length.le (300000:Nat)∧
 (List.length (bH (aa x.rst ↑(aE x.rst)))).le (300000:Nat)∧
 k (PV.int .i64 (0:Int)) [bS (PV.raw (Go.Value.pointer none)) 1 x.sc x.us x.pw x.hk x.hs x.hn x.hp x.port x.opq ((bu x.sp x.sc (ae x.rst ↑(aE x.rst)) (x.pn,x.pl)).1) ((bu x.sp x.sc (ae x.rst ↑(aE x.rst)) (x.pn,x.pl)).2) (dU (aa x.rst ↑(aE x.rst)) x.hq) (dV x.sp (aa x.rst ↑(aE x.rst)) x.q) (dW (bH (aa x.rst ↑(aE x.rst))) x.hf) (dX (bH (aa x.rst ↑(aE x.rst))) x.fg) x.bare x.sp (dY (bH (aa x.rst ↑(aE x.rst))))]
theorem IC(sc us pw:Bs)(hk:Int)(hs:Bs)(hn:Int)(hp:List Int)(port:Int)(pn:Bool)(pl:List Bs)(hq:Bool)(q:Bs)(hf:Bool)(fg:Bs)(bare sp:Bool)(rst:Bs):IB (KT (RS.mk sc us pw hk hs hn hp port false pn pl hq q hf fg bare sp rst).ao) sc us pw hk hs hn hp port pn pl hq q hf fg bare sp rst:=fun x ⟨h1,h2,h3⟩=>by
 have hl:=cO x.rst (aE x.rst)
 have hq':=iM (aa x.rst (aE x.rst))
 rw [h1]
 refine ⟨⟨h2,h3⟩,show(aa x.rst (aE x.rst)).length≤300000 by omega,show(bH (aa x.rst (aE x.rst))).length≤300000 by omega,rfl,?_⟩
 show _=[nM x.path.tail]
 rw [gV]
 rfl
set_option maxHeartbeats 4000000 in
theorem ID(sc us pw:Bs)(hk:Int)(hs:Bs)(hn:Int)(hp:List Int)(port:Int)(pn:Bool)(pl:List Bs)(hq:Bool)(q:Bs)(hf:Bool)(fg:Bs)(bare sp:Bool)(rst:Bs):Aj (KT (RS.mk sc us pw hk hs hn hp port false pn pl hq q hf fg bare sp rst).ao) sc us pw hk hs hn hp port pn pl hq q hf fg bare sp rst:=fun x ⟨h1,h2,h3⟩=>by
 have er:=Du x
 have e_sc:x.ba.1.sc=x.sc:=(by have h:=congrArg RS.sc er;exact h)
 have e_opq:x.ba.1.opq=x.opq:=(by have h:=congrArg RS.opq er;exact h)
 have e_pn:x.ba.1.pn=x.pn:=(by have h:=congrArg RS.pn er;exact h)
 have e_pl:x.ba.1.pl=x.pl:=(by have h:=congrArg RS.pl er;exact h)
 have e_hq:x.ba.1.hq=x.hq:=(by have h:=congrArg RS.hq er;exact h)
 have e_q:x.ba.1.q=x.q:=(by have h:=congrArg RS.q er;exact h)
 have e_hf:x.ba.1.hf=x.hf:=(by have h:=congrArg RS.hf er;exact h)
 have e_fg:x.ba.1.fg=x.fg:=(by have h:=congrArg RS.fg er;exact h)
 have e_bare:x.ba.1.bare=x.bare:=(by have h:=congrArg RS.bare er;exact h)
 have e_sp:x.ba.1.sp=x.sp:=(by have h:=congrArg RS.sp er;exact h)
 have e_rst:x.ba.1.rst=aa x.rst (ah x.sp x.rst):=(by have h:=congrArg RS.rst er;exact h)
 have hl:=cO x.rst (ah x.sp x.rst)
 have hl2:=iM (aa x.rst (ah x.sp x.rst))
 have hs1:=mC x.sp (aa x.rst (ah x.sp x.rst))
 have pl1:∀R:Bs,R.length≤x.rst.length→(aa R (aE R)).length≤300000∧(bH (aa R (aE R))).length≤300000:=fun R hR=>by
  have a:=cO R (aE R)
  have b:=iM (aa R (aE R))
  omega
 have ea:x.b9=if x.ba.2=0 then(if x.ba.1.sp=false∧bN x.ba.1.rst=true then(x.ba.1.tail,0)else(x.ba.1.shl.path.tail,0))else x.ba:=rfl
 have fin:x.b9=(x.ba.1.shl.path.tail,0)→KT x.b9 (.int .i64 0) [nM {x with us:=x.ba.1.us,pw:=x.ba.1.pw,hk:=x.ba.1.hk,hs:=x.ba.1.hs,hn:=x.ba.1.hn,hp:=x.ba.1.hp,port:=x.ba.1.port,pn:=(bu x.sp x.sc (ae (if az x.sp (aa x.rst (ah x.sp x.rst)) 0=true then aa (aa x.rst (ah x.sp x.rst)) 1 else aa x.rst (ah x.sp x.rst)) (aE (if az x.sp (aa x.rst (ah x.sp x.rst)) 0=true then aa (aa x.rst (ah x.sp x.rst)) 1 else aa x.rst (ah x.sp x.rst)))) (x.pn,x.pl)).1,pl:=(bu x.sp x.sc (ae (if az x.sp (aa x.rst (ah x.sp x.rst)) 0=true then aa (aa x.rst (ah x.sp x.rst)) 1 else aa x.rst (ah x.sp x.rst)) (aE (if az x.sp (aa x.rst (ah x.sp x.rst)) 0=true then aa (aa x.rst (ah x.sp x.rst)) 1 else aa x.rst (ah x.sp x.rst)))) (x.pn,x.pl)).2,hq:=dU (aa (if az x.sp (aa x.rst (ah x.sp x.rst)) 0=true then aa (aa x.rst (ah x.sp x.rst)) 1 else aa x.rst (ah x.sp x.rst)) (aE (if az x.sp (aa x.rst (ah x.sp x.rst)) 0=true then aa (aa x.rst (ah x.sp x.rst)) 1 else aa x.rst (ah x.sp x.rst)))) x.hq,q:=dV x.sp (aa (if az x.sp (aa x.rst (ah x.sp x.rst)) 0=true then aa (aa x.rst (ah x.sp x.rst)) 1 else aa x.rst (ah x.sp x.rst)) (aE (if az x.sp (aa x.rst (ah x.sp x.rst)) 0=true then aa (aa x.rst (ah x.sp x.rst)) 1 else aa x.rst (ah x.sp x.rst)))) x.q,hf:=dW (bH (aa (if az x.sp (aa x.rst (ah x.sp x.rst)) 0=true then aa (aa x.rst (ah x.sp x.rst)) 1 else aa x.rst (ah x.sp x.rst)) (aE (if az x.sp (aa x.rst (ah x.sp x.rst)) 0=true then aa (aa x.rst (ah x.sp x.rst)) 1 else aa x.rst (ah x.sp x.rst))))) x.hf,fg:=dX (bH (aa (if az x.sp (aa x.rst (ah x.sp x.rst)) 0=true then aa (aa x.rst (ah x.sp x.rst)) 1 else aa x.rst (ah x.sp x.rst)) (aE (if az x.sp (aa x.rst (ah x.sp x.rst)) 0=true then aa (aa x.rst (ah x.sp x.rst)) 1 else aa x.rst (ah x.sp x.rst))))) x.fg,rst:=dY (bH (aa (if az x.sp (aa x.rst (ah x.sp x.rst)) 0=true then aa (aa x.rst (ah x.sp x.rst)) 1 else aa x.rst (ah x.sp x.rst)) (aE (if az x.sp (aa x.rst (ah x.sp x.rst)) 0=true then aa (aa x.rst (ah x.sp x.rst)) 1 else aa x.rst (ah x.sp x.rst)))))}]:=fun h=>by
  rw [h]
  refine ⟨rfl,?_⟩
  show [nM _]=[nM x.ba.1.shl.path.tail]
  rw [gV]
  unfold RS.path RS.shl
  dsimp only
  simp only [e_sc,e_opq,e_pn,e_pl,e_hq,e_q,e_hf,e_fg,e_bare,e_sp,e_rst]
 rw [h1]
 refine ⟨show x.rst.length≤300000 from h2,fun hc=>?_,fun hc=>⟨fun hs=>⟨trivial,fun ht=>⟨show(aa x.rst (ah x.sp x.rst)).length≤300000 by omega,show(bH (aa x.rst (ah x.sp x.rst))).length≤300000 by omega,?_⟩,fun ht=>⟨trivial,⟨by omega,h3⟩,(pl1 _ (by omega)).1,(pl1 _ (by omega)).2,?_⟩⟩,fun hs=>⟨fun h=>(by cases h),fun _=>⟨trivial,⟨by omega,h3⟩,(pl1 _ (by omega)).1,(pl1 _ (by omega)).2,?_⟩⟩⟩⟩
 ·have hc':¬x.ba.2=0:=by simpa using hc
  rw [ea,if_neg hc']
  exact ⟨rfl,congrArg (fun r=>[nM r]) er.symm⟩
 ·have hc':x.ba.2=0:=by simpa using hc
  have hs':x.sp=false:=by simpa using hs
  rw [ea,if_pos hc',if_pos ⟨by rw [e_sp];exact hs',by rw [e_rst];exact ht⟩]
  refine ⟨rfl,?_⟩
  show _=[nM x.ba.1.tail]
  rw [gV]
  simp only [e_sc,e_opq,e_pn,e_pl,e_hq,e_q,e_hf,e_fg,e_bare,e_sp,e_rst]
  rfl
 ·have hc':x.ba.2=0:=by simpa using hc
  exact fin (by rw [ea,if_pos hc',if_neg (by rintro ⟨-,h⟩;rw [e_rst]at h;rw [ht]at h;cases h)])
 ·have hc':x.ba.2=0:=by simpa using hc
  have hs':x.sp=true:=by simpa using hs
  exact fin (by rw [ea,if_pos hc',if_neg (by rintro ⟨h,-⟩;rw [e_sp,hs']at h;cases h)])
def xV:cr:=bP [(75,jO),(76,nC),(77,gv),(78,cX),(79,fR),(80,jS),(81,lg),(82,gu),(88,hY),(89,lj),(84,fu),(90,mA),(91,nH),(92,jg),(91,lk),(92,ia)]
def xW(sc us pw:Bs)(hk:Int)(hs:Bs)(hn:Int)(hp:List Int)(port:Int)(pn:Bool)(pl:List Bs)(hq:Bool)(q:Bs)(hf:Bool)(fg:Bs)(bare sp:Bool)(rst:Bs):aY:=fun i=>bif Nat.beq i 1000002 then some ⟨(RS),(fun s x=>(VS.mk s.loc s.env [(0,aC 1 (.raw (.pointer none)) (x.sc) (x.us) (x.pw) (x.hk) (x.hs) (x.hn) (x.hp) (x.port) (x.opq) (x.pn) (x.pl) (x.hq) (x.q) (x.hf) (x.fg) (x.bare) (x.sp) (x.rst))])),(fun s=>RS.mk (s.bx 0 [0,0]).db (s.bx 0 [0,1]).db (s.bx 0 [0,2]).db (s.bx 0 [0,3,0]).asInt (s.bx 0 [0,3,1]).db (s.bx 0 [0,3,2]).asInt (s.bx 0 [0,3,3]).mJ (s.bx 0 [0,4]).asInt (s.bx 0 [0,5]).asBool (s.bx 0 [0,6]).lA (s.bx 0 [0,6]).kE (s.bx 0 [0,7]).asBool (s.bx 0 [0,8]).db (s.bx 0 [0,9]).asBool (s.bx 0 [0,10]).db (s.bx 0 [2]).asBool (s.bx 0 [3]).asBool (s.bx 0 [4]).db),(fun s x=>let r:=x;(RS.mk sc us pw hk hs hn hp port false pn pl hq q hf fg bare sp rst).ao=r.b9∧r.rst.length≤300000∧r.pl.length≤100000),(fun s x=>let r:=x;0),[]⟩else bif Nat.beq i 1000003 then some ⟨(RS),(fun s x=>(VS.mk s.loc s.env [(0,aC 1 (.raw (.pointer none)) (x.sc) (x.us) (x.pw) (x.hk) (x.hs) (x.hn) (x.hp) (x.port) (x.opq) (x.pn) (x.pl) (x.hq) (x.q) (x.hf) (x.fg) (x.bare) (x.sp) (x.rst))])),(fun s=>RS.mk (s.bx 0 [0,0]).db (s.bx 0 [0,1]).db (s.bx 0 [0,2]).db (s.bx 0 [0,3,0]).asInt (s.bx 0 [0,3,1]).db (s.bx 0 [0,3,2]).asInt (s.bx 0 [0,3,3]).mJ (s.bx 0 [0,4]).asInt (s.bx 0 [0,5]).asBool (s.bx 0 [0,6]).lA (s.bx 0 [0,6]).kE (s.bx 0 [0,7]).asBool (s.bx 0 [0,8]).db (s.bx 0 [0,9]).asBool (s.bx 0 [0,10]).db (s.bx 0 [2]).asBool (s.bx 0 [3]).asBool (s.bx 0 [4]).db),(fun s x=>let r:=x;(RS.mk sc us pw hk hs hn hp port false pn pl hq q hf fg bare sp rst).ao=(r.path.tail,0)∧r.rst.length≤300000∧r.pl.length≤100000),(fun s x=>let r:=x;0),[]⟩else bif Nat.beq i 1000001 then some ⟨(RS),(fun s x=>(VS.mk [] [] [])),(fun s=>RS.mk (s.bx 0 [0,0]).db (s.bx 0 [0,1]).db (s.bx 0 [0,2]).db (s.bx 0 [0,3,0]).asInt (s.bx 0 [0,3,1]).db (s.bx 0 [0,3,2]).asInt (s.bx 0 [0,3,3]).mJ (s.bx 0 [0,4]).asInt (s.bx 0 [0,5]).asBool (s.bx 0 [0,6]).lA (s.bx 0 [0,6]).kE (s.bx 0 [0,7]).asBool (s.bx 0 [0,8]).db (s.bx 0 [0,9]).asBool (s.bx 0 [0,10]).db (s.bx 0 [2]).asBool (s.bx 0 [3]).asBool (s.bx 0 [4]).db),(fun s x=>let r:=x;False),(fun s x=>let r:=x;0),[]⟩else none
theorem xX:cS Tryz.prog ay xV:=ai qy (ai u5 (ai gj (ai cH (ai lf (ai jT (ai rN (ai gi (ai nB (ai rO (ai iL (ai ox (ai u9 (ai oP (ai rQ (ai nJ (ax))))))))))))))))
theorem Dw(sc us pw:Bs)(hk:Int)(hs:Bs)(hn:Int)(hp:List Int)(port:Int)(pn:Bool)(pl:List Bs)(hq:Bool)(q:Bs)(hf:Bool)(fg:Bs)(bare sp:Bool)(rst:Bs)(k:PV→List PV→Prop):bL Tryz.prog xV ay (xW sc us pw hk hs hn hp port pn pl hq q hf fg bare sp rst) 1000 Tryz.f47 [.ptr 0 0] [aC 1 (.raw (.pointer none)) sc us pw hk hs hn hp port false pn pl hq q hf fg bare sp rst] k=(
 (List.length rst≤(300000:Nat)∧
 (ab rst rst (0:Nat)).2.2=true)∧
 ((!decide ((0:Int)=(0:Int)))=true→
 k (PV.int .i64 (0:Int)) [bS (PV.raw (Go.Value.pointer none)) 1 ((ab rst rst (0:Nat)).1) us pw hk hs hn hp port false pn pl hq q hf fg false (aw (ab rst rst (0:Nat)).1) ((ab rst rst (0:Nat)).2.1)])∧
 ((!decide ((0:Int)=(0:Int)))=false→
 (false=true→
 (List.length (ab rst rst (0:Nat)).2.1).le (300000:Nat)∧
 (List.length (bH (ab rst rst (0:Nat)).2.1)).le (300000:Nat)∧
 k (PV.int .i64 (0:Int)) [bS (PV.raw (Go.Value.pointer none)) 1 ((ab rst rst (0:Nat)).1) us pw hk hs hn hp port false pn pl (dU (ab rst rst (0:Nat)).2.1 hq) (dV (aw (ab rst rst (0:Nat)).1) (ab rst rst (0:Nat)).2.1 q) (dW (bH (ab rst rst (0:Nat)).2.1) hf) (dX (bH (ab rst rst (0:Nat)).2.1) fg) false (aw (ab rst rst (0:Nat)).1) (dY (bH (ab rst rst (0:Nat)).2.1))])∧
 (false=false→
 (decide ((ab rst rst (0:Nat)).1=(ByteArray.mk #[102,105,108,101]).data.toList)=true→
 (List.length (ab rst rst (0:Nat)).2.1≤(300000:Nat)∧
 pl.length≤(100000:Nat))∧
 ((!decide ((RS.mk (ab rst rst (0:Nat)).1 us pw hk hs hn hp port false pn pl hq q hf fg false (aw (ab rst rst (0:Nat)).1) (ab rst rst (0:Nat)).2.1).bc.2=(0:Int)))=true→
 k (PV.int .i64 (RS.mk (ab rst rst (0:Nat)).1 us pw hk hs hn hp port false pn pl hq q hf fg false (aw (ab rst rst (0:Nat)).1) (ab rst rst (0:Nat)).2.1).bc.2) [bS (PV.raw (Go.Value.pointer none)) 1 ((ab rst rst (0:Nat)).1) us pw ((RS.mk (ab rst rst (0:Nat)).1 us pw hk hs hn hp port false pn pl hq q hf fg false (aw (ab rst rst (0:Nat)).1) (ab rst rst (0:Nat)).2.1).bc.1.hk) ((RS.mk (ab rst rst (0:Nat)).1 us pw hk hs hn hp port false pn pl hq q hf fg false (aw (ab rst rst (0:Nat)).1) (ab rst rst (0:Nat)).2.1).bc.1.hs) ((RS.mk (ab rst rst (0:Nat)).1 us pw hk hs hn hp port false pn pl hq q hf fg false (aw (ab rst rst (0:Nat)).1) (ab rst rst (0:Nat)).2.1).bc.1.hn) ((RS.mk (ab rst rst (0:Nat)).1 us pw hk hs hn hp port false pn pl hq q hf fg false (aw (ab rst rst (0:Nat)).1) (ab rst rst (0:Nat)).2.1).bc.1.hp) port false ((RS.mk (ab rst rst (0:Nat)).1 us pw hk hs hn hp port false pn pl hq q hf fg false (aw (ab rst rst (0:Nat)).1) (ab rst rst (0:Nat)).2.1).bc.1.pn) ((RS.mk (ab rst rst (0:Nat)).1 us pw hk hs hn hp port false pn pl hq q hf fg false (aw (ab rst rst (0:Nat)).1) (ab rst rst (0:Nat)).2.1).bc.1.pl) hq q hf fg false (aw (ab rst rst (0:Nat)).1) ((RS.mk (ab rst rst (0:Nat)).1 us pw hk hs hn hp port false pn pl hq q hf fg false (aw (ab rst rst (0:Nat)).1) (ab rst rst (0:Nat)).2.1).bc.1.rst)])∧
 ((!decide ((RS.mk (ab rst rst (0:Nat)).1 us pw hk hs hn hp port false pn pl hq q hf fg false (aw (ab rst rst (0:Nat)).1) (ab rst rst (0:Nat)).2.1).bc.2=(0:Int)))=false→
 (List.length (RS.mk (ab rst rst (0:Nat)).1 us pw hk hs hn hp port false pn pl hq q hf fg false (aw (ab rst rst (0:Nat)).1) (ab rst rst (0:Nat)).2.1).bc.1.rst).le (300000:Nat)∧
 (List.length (bH (RS.mk (ab rst rst (0:Nat)).1 us pw hk hs hn hp port false pn pl hq q hf fg false (aw (ab rst rst (0:Nat)).1) (ab rst rst (0:Nat)).2.1).bc.1.rst)).le (300000:Nat)∧
 k (PV.int .i64 (0:Int)) [bS (PV.raw (Go.Value.pointer none)) 1 ((ab rst rst (0:Nat)).1) us pw ((RS.mk (ab rst rst (0:Nat)).1 us pw hk hs hn hp port false pn pl hq q hf fg false (aw (ab rst rst (0:Nat)).1) (ab rst rst (0:Nat)).2.1).bc.1.hk) ((RS.mk (ab rst rst (0:Nat)).1 us pw hk hs hn hp port false pn pl hq q hf fg false (aw (ab rst rst (0:Nat)).1) (ab rst rst (0:Nat)).2.1).bc.1.hs) ((RS.mk (ab rst rst (0:Nat)).1 us pw hk hs hn hp port false pn pl hq q hf fg false (aw (ab rst rst (0:Nat)).1) (ab rst rst (0:Nat)).2.1).bc.1.hn) ((RS.mk (ab rst rst (0:Nat)).1 us pw hk hs hn hp port false pn pl hq q hf fg false (aw (ab rst rst (0:Nat)).1) (ab rst rst (0:Nat)).2.1).bc.1.hp) port false ((RS.mk (ab rst rst (0:Nat)).1 us pw hk hs hn hp port false pn pl hq q hf fg false (aw (ab rst rst (0:Nat)).1) (ab rst rst (0:Nat)).2.1).bc.1.pn) ((RS.mk (ab rst rst (0:Nat)).1 us pw hk hs hn hp port false pn pl hq q hf fg false (aw (ab rst rst (0:Nat)).1) (ab rst rst (0:Nat)).2.1).bc.1.pl) (dU (RS.mk (ab rst rst (0:Nat)).1 us pw hk hs hn hp port false pn pl hq q hf fg false (aw (ab rst rst (0:Nat)).1) (ab rst rst (0:Nat)).2.1).bc.1.rst hq) (dV (aw (ab rst rst (0:Nat)).1) (RS.mk (ab rst rst (0:Nat)).1 us pw hk hs hn hp port false pn pl hq q hf fg false (aw (ab rst rst (0:Nat)).1) (ab rst rst (0:Nat)).2.1).bc.1.rst q) (dW (bH (RS.mk (ab rst rst (0:Nat)).1 us pw hk hs hn hp port false pn pl hq q hf fg false (aw (ab rst rst (0:Nat)).1) (ab rst rst (0:Nat)).2.1).bc.1.rst) hf) (dX (bH (RS.mk (ab rst rst (0:Nat)).1 us pw hk hs hn hp port false pn pl hq q hf fg false (aw (ab rst rst (0:Nat)).1) (ab rst rst (0:Nat)).2.1).bc.1.rst) fg) false (aw (ab rst rst (0:Nat)).1) (dY (bH (RS.mk (ab rst rst (0:Nat)).1 us pw hk hs hn hp port false pn pl hq q hf fg false (aw (ab rst rst (0:Nat)).1) (ab rst rst (0:Nat)).2.1).bc.1.rst))]))∧
 (decide ((ab rst rst (0:Nat)).1=(ByteArray.mk #[102,105,108,101]).data.toList)=false→
 (false=false→
 (aw (ab rst rst (0:Nat)).1=true→
 True∧
 (false=false→
 false=true→
 True)∧
 (false=true→
 VS.mk [] [(0,PV.ptr (0:Nat) (0:Nat)),(2,PV.int .i64 (0:Int)),(3,PV.int .i64 (0:Int)),(6,PV.bool !decide ((0:Int)=(0:Int))),(10,PV.bool false),(16,PV.bool (decide ((ab rst rst (0:Nat)).1=(ByteArray.mk #[102,105,108,101]).data.toList))),(26,PV.undef),(28,PV.bool false),(51,PV.undef),(58,PV.undef),(61,PV.undef),(71,PV.undef),(77,PV.undef),(81,PV.undef),(87,PV.undef),(97,PV.undef)] [((0:Nat),bS (PV.raw (Go.Value.pointer none)) 1 ((ab rst rst (0:Nat)).1) us pw hk hs hn hp port false pn pl hq q hf fg false (aw (ab rst rst (0:Nat)).1) ((ab rst rst (0:Nat)).2.1))]=VS.mk [] [] []∧
 False∧
 ∀(x:RS),False→
 False)∧
 (false=false→
 (aw (ab rst rst (0:Nat)).1=true→
 (List.length (ab rst rst (0:Nat)).2.1).le (300000:Nat)∧
 VS.mk [] [(0,PV.ptr (0:Nat) (0:Nat)),(2,PV.int .i64 (0:Int)),(3,PV.int .i64 (0:Int)),(6,PV.bool !decide ((0:Int)=(0:Int))),(10,PV.bool false),(16,PV.bool (decide ((ab rst rst (0:Nat)).1=(ByteArray.mk #[102,105,108,101]).data.toList))),(26,PV.undef),(28,PV.bool false),(51,PV.bool (aw (ab rst rst (0:Nat)).1)),(58,PV.undef),(61,PV.undef),(71,PV.undef),(77,PV.undef),(81,PV.undef),(87,PV.undef),(97,PV.undef)] [((0:Nat),bS (PV.raw (Go.Value.pointer none)) 1 ((ab rst rst (0:Nat)).1) us pw hk hs hn hp port false pn pl hq q hf fg false (aw (ab rst rst (0:Nat)).1) (aB (List.length (ab rst rst (0:Nat)).2.1) (aw (ab rst rst (0:Nat)).1) (0:Int) (ab rst rst (0:Nat)).2.1))]=VS.mk [] [(0,PV.ptr (0:Nat) (0:Nat)),(2,PV.int .i64 (0:Int)),(3,PV.int .i64 (0:Int)),(6,PV.bool !decide ((0:Int)=(0:Int))),(10,PV.bool false),(16,PV.bool (decide ((ab rst rst (0:Nat)).1=(ByteArray.mk #[102,105,108,101]).data.toList))),(26,PV.undef),(28,PV.bool false),(51,PV.bool (aw (ab rst rst (0:Nat)).1)),(58,PV.undef),(61,PV.undef),(71,PV.undef),(77,PV.undef),(81,PV.undef),(87,PV.undef),(97,PV.undef)] [((0:Nat),bS (PV.raw (Go.Value.pointer none)) 1 ((RS.mk (ab rst rst (0:Nat)).1 us pw hk hs hn hp port false pn pl hq q hf fg false (aw (ab rst rst (0:Nat)).1) (aB (List.length (ab rst rst (0:Nat)).2.1) (aw (ab rst rst (0:Nat)).1) (0:Int) (ab rst rst (0:Nat)).2.1)).sc) ((RS.mk (ab rst rst (0:Nat)).1 us pw hk hs hn hp port false pn pl hq q hf fg false (aw (ab rst rst (0:Nat)).1) (aB (List.length (ab rst rst (0:Nat)).2.1) (aw (ab rst rst (0:Nat)).1) (0:Int) (ab rst rst (0:Nat)).2.1)).us) ((RS.mk (ab rst rst (0:Nat)).1 us pw hk hs hn hp port false pn pl hq q hf fg false (aw (ab rst rst (0:Nat)).1) (aB (List.length (ab rst rst (0:Nat)).2.1) (aw (ab rst rst (0:Nat)).1) (0:Int) (ab rst rst (0:Nat)).2.1)).pw) ((RS.mk (ab rst rst (0:Nat)).1 us pw hk hs hn hp port false pn pl hq q hf fg false (aw (ab rst rst (0:Nat)).1) (aB (List.length (ab rst rst (0:Nat)).2.1) (aw (ab rst rst (0:Nat)).1) (0:Int) (ab rst rst (0:Nat)).2.1)).hk) ((RS.mk (ab rst rst (0:Nat)).1 us pw hk hs hn hp port false pn pl hq q hf fg false (aw (ab rst rst (0:Nat)).1) (aB (List.length (ab rst rst (0:Nat)).2.1) (aw (ab rst rst (0:Nat)).1) (0:Int) (ab rst rst (0:Nat)).2.1)).hs) ((RS.mk (ab rst rst (0:Nat)).1 us pw hk hs hn hp port false pn pl hq q hf fg false (aw (ab rst rst (0:Nat)).1) (aB (List.length (ab rst rst (0:Nat)).2.1) (aw (ab rst rst (0:Nat)).1) (0:Int) (ab rst rst (0:Nat)).2.1)).hn) ((RS.mk (ab rst rst (0:Nat)).1 us pw hk hs hn hp port false pn pl hq q hf fg false (aw (ab rst rst (0:Nat)).1) (aB (List.length (ab rst rst (0:Nat)).2.1) (aw (ab rst rst (0:Nat)).1) (0:Int) (ab rst rst (0:Nat)).2.1)).hp) ((RS.mk (ab rst rst (0:Nat)).1 us pw hk hs hn hp port false pn pl hq q hf fg false (aw (ab rst rst (0:Nat)).1) (aB (List.length (ab rst rst (0:Nat)).2.1) (aw (ab rst rst (0:Nat)).1) (0:Int) (ab rst rst (0:Nat)).2.1)).port) ((RS.mk (ab rst rst (0:Nat)).1 us pw hk hs hn hp port false pn pl hq q hf fg false (aw (ab rst rst (0:Nat)).1) (aB (List.length (ab rst rst (0:Nat)).2.1) (aw (ab rst rst (0:Nat)).1) (0:Int) (ab rst rst (0:Nat)).2.1)).opq) ((RS.mk (ab rst rst (0:Nat)).1 us pw hk hs hn hp port false pn pl hq q hf fg false (aw (ab rst rst (0:Nat)).1) (aB (List.length (ab rst rst (0:Nat)).2.1) (aw (ab rst rst (0:Nat)).1) (0:Int) (ab rst rst (0:Nat)).2.1)).pn) ((RS.mk (ab rst rst (0:Nat)).1 us pw hk hs hn hp port false pn pl hq q hf fg false (aw (ab rst rst (0:Nat)).1) (aB (List.length (ab rst rst (0:Nat)).2.1) (aw (ab rst rst (0:Nat)).1) (0:Int) (ab rst rst (0:Nat)).2.1)).pl) ((RS.mk (ab rst rst (0:Nat)).1 us pw hk hs hn hp port false pn pl hq q hf fg false (aw (ab rst rst (0:Nat)).1) (aB (List.length (ab rst rst (0:Nat)).2.1) (aw (ab rst rst (0:Nat)).1) (0:Int) (ab rst rst (0:Nat)).2.1)).hq) ((RS.mk (ab rst rst (0:Nat)).1 us pw hk hs hn hp port false pn pl hq q hf fg false (aw (ab rst rst (0:Nat)).1) (aB (List.length (ab rst rst (0:Nat)).2.1) (aw (ab rst rst (0:Nat)).1) (0:Int) (ab rst rst (0:Nat)).2.1)).q) ((RS.mk (ab rst rst (0:Nat)).1 us pw hk hs hn hp port false pn pl hq q hf fg false (aw (ab rst rst (0:Nat)).1) (aB (List.length (ab rst rst (0:Nat)).2.1) (aw (ab rst rst (0:Nat)).1) (0:Int) (ab rst rst (0:Nat)).2.1)).hf) ((RS.mk (ab rst rst (0:Nat)).1 us pw hk hs hn hp port false pn pl hq q hf fg false (aw (ab rst rst (0:Nat)).1) (aB (List.length (ab rst rst (0:Nat)).2.1) (aw (ab rst rst (0:Nat)).1) (0:Int) (ab rst rst (0:Nat)).2.1)).fg) ((RS.mk (ab rst rst (0:Nat)).1 us pw hk hs hn hp port false pn pl hq q hf fg false (aw (ab rst rst (0:Nat)).1) (aB (List.length (ab rst rst (0:Nat)).2.1) (aw (ab rst rst (0:Nat)).1) (0:Int) (ab rst rst (0:Nat)).2.1)).bare) ((RS.mk (ab rst rst (0:Nat)).1 us pw hk hs hn hp port false pn pl hq q hf fg false (aw (ab rst rst (0:Nat)).1) (aB (List.length (ab rst rst (0:Nat)).2.1) (aw (ab rst rst (0:Nat)).1) (0:Int) (ab rst rst (0:Nat)).2.1)).sp) ((RS.mk (ab rst rst (0:Nat)).1 us pw hk hs hn hp port false pn pl hq q hf fg false (aw (ab rst rst (0:Nat)).1) (aB (List.length (ab rst rst (0:Nat)).2.1) (aw (ab rst rst (0:Nat)).1) (0:Int) (ab rst rst (0:Nat)).2.1)).rst))]∧
 ((RS.mk sc us pw hk hs hn hp port false pn pl hq q hf fg bare sp rst).ao=(RS.mk (ab rst rst (0:Nat)).1 us pw hk hs hn hp port false pn pl hq q hf fg false (aw (ab rst rst (0:Nat)).1) (aB (List.length (ab rst rst (0:Nat)).2.1) (aw (ab rst rst (0:Nat)).1) (0:Int) (ab rst rst (0:Nat)).2.1)).b9∧
 List.length (RS.mk (ab rst rst (0:Nat)).1 us pw hk hs hn hp port false pn pl hq q hf fg false (aw (ab rst rst (0:Nat)).1) (aB (List.length (ab rst rst (0:Nat)).2.1) (aw (ab rst rst (0:Nat)).1) (0:Int) (ab rst rst (0:Nat)).2.1)).rst≤(300000:Nat)∧
 (RS.mk (ab rst rst (0:Nat)).1 us pw hk hs hn hp port false pn pl hq q hf fg false (aw (ab rst rst (0:Nat)).1) (aB (List.length (ab rst rst (0:Nat)).2.1) (aw (ab rst rst (0:Nat)).1) (0:Int) (ab rst rst (0:Nat)).2.1)).pl.length≤(100000:Nat))∧
 Aj k sc us pw hk hs hn hp port pn pl hq q hf fg bare sp rst)∧
 (aw (ab rst rst (0:Nat)).1=false→
 True∧
 ((aj (ab rst rst (0:Nat)).2.1 (ByteArray.mk #[47,47]).data.toList).2=true→
 VS.mk [] [(0,PV.ptr (0:Nat) (0:Nat)),(2,PV.int .i64 (0:Int)),(3,PV.int .i64 (0:Int)),(6,PV.bool !decide ((0:Int)=(0:Int))),(10,PV.bool false),(16,PV.bool (decide ((ab rst rst (0:Nat)).1=(ByteArray.mk #[102,105,108,101]).data.toList))),(26,PV.undef),(28,PV.bool false),(51,PV.bool (aw (ab rst rst (0:Nat)).1)),(58,PV.bool (aj (ab rst rst (0:Nat)).2.1 (ByteArray.mk #[47,47]).data.toList).2),(61,PV.undef),(71,PV.undef),(77,PV.undef),(81,PV.undef),(87,PV.undef),(97,PV.undef)] [((0:Nat),bS (PV.raw (Go.Value.pointer none)) 1 ((ab rst rst (0:Nat)).1) us pw hk hs hn hp port false pn pl hq q hf fg false (aw (ab rst rst (0:Nat)).1) ((aj (ab rst rst (0:Nat)).2.1 (ByteArray.mk #[47,47]).data.toList).1))]=VS.mk [] [(0,PV.ptr (0:Nat) (0:Nat)),(2,PV.int .i64 (0:Int)),(3,PV.int .i64 (0:Int)),(6,PV.bool !decide ((0:Int)=(0:Int))),(10,PV.bool false),(16,PV.bool (decide ((ab rst rst (0:Nat)).1=(ByteArray.mk #[102,105,108,101]).data.toList))),(26,PV.undef),(28,PV.bool false),(51,PV.bool (aw (ab rst rst (0:Nat)).1)),(58,PV.bool (aj (ab rst rst (0:Nat)).2.1 (ByteArray.mk #[47,47]).data.toList).2),(61,PV.undef),(71,PV.undef),(77,PV.undef),(81,PV.undef),(87,PV.undef),(97,PV.undef)] [((0:Nat),bS (PV.raw (Go.Value.pointer none)) 1 ((RS.mk (ab rst rst (0:Nat)).1 us pw hk hs hn hp port false pn pl hq q hf fg false (aw (ab rst rst (0:Nat)).1) (aj (ab rst rst (0:Nat)).2.1 (ByteArray.mk #[47,47]).data.toList).1).sc) ((RS.mk (ab rst rst (0:Nat)).1 us pw hk hs hn hp port false pn pl hq q hf fg false (aw (ab rst rst (0:Nat)).1) (aj (ab rst rst (0:Nat)).2.1 (ByteArray.mk #[47,47]).data.toList).1).us) ((RS.mk (ab rst rst (0:Nat)).1 us pw hk hs hn hp port false pn pl hq q hf fg false (aw (ab rst rst (0:Nat)).1) (aj (ab rst rst (0:Nat)).2.1 (ByteArray.mk #[47,47]).data.toList).1).pw) ((RS.mk (ab rst rst (0:Nat)).1 us pw hk hs hn hp port false pn pl hq q hf fg false (aw (ab rst rst (0:Nat)).1) (aj (ab rst rst (0:Nat)).2.1 (ByteArray.mk #[47,47]).data.toList).1).hk) ((RS.mk (ab rst rst (0:Nat)).1 us pw hk hs hn hp port false pn pl hq q hf fg false (aw (ab rst rst (0:Nat)).1) (aj (ab rst rst (0:Nat)).2.1 (ByteArray.mk #[47,47]).data.toList).1).hs) ((RS.mk (ab rst rst (0:Nat)).1 us pw hk hs hn hp port false pn pl hq q hf fg false (aw (ab rst rst (0:Nat)).1) (aj (ab rst rst (0:Nat)).2.1 (ByteArray.mk #[47,47]).data.toList).1).hn) ((RS.mk (ab rst rst (0:Nat)).1 us pw hk hs hn hp port false pn pl hq q hf fg false (aw (ab rst rst (0:Nat)).1) (aj (ab rst rst (0:Nat)).2.1 (ByteArray.mk #[47,47]).data.toList).1).hp) ((RS.mk (ab rst rst (0:Nat)).1 us pw hk hs hn hp port false pn pl hq q hf fg false (aw (ab rst rst (0:Nat)).1) (aj (ab rst rst (0:Nat)).2.1 (ByteArray.mk #[47,47]).data.toList).1).port) ((RS.mk (ab rst rst (0:Nat)).1 us pw hk hs hn hp port false pn pl hq q hf fg false (aw (ab rst rst (0:Nat)).1) (aj (ab rst rst (0:Nat)).2.1 (ByteArray.mk #[47,47]).data.toList).1).opq) ((RS.mk (ab rst rst (0:Nat)).1 us pw hk hs hn hp port false pn pl hq q hf fg false (aw (ab rst rst (0:Nat)).1) (aj (ab rst rst (0:Nat)).2.1 (ByteArray.mk #[47,47]).data.toList).1).pn) ((RS.mk (ab rst rst (0:Nat)).1 us pw hk hs hn hp port false pn pl hq q hf fg false (aw (ab rst rst (0:Nat)).1) (aj (ab rst rst (0:Nat)).2.1 (ByteArray.mk #[47,47]).data.toList).1).pl) ((RS.mk (ab rst rst (0:Nat)).1 us pw hk hs hn hp port false pn pl hq q hf fg false (aw (ab rst rst (0:Nat)).1) (aj (ab rst rst (0:Nat)).2.1 (ByteArray.mk #[47,47]).data.toList).1).hq) ((RS.mk (ab rst rst (0:Nat)).1 us pw hk hs hn hp port false pn pl hq q hf fg false (aw (ab rst rst (0:Nat)).1) (aj (ab rst rst (0:Nat)).2.1 (ByteArray.mk #[47,47]).data.toList).1).q) ((RS.mk (ab rst rst (0:Nat)).1 us pw hk hs hn hp port false pn pl hq q hf fg false (aw (ab rst rst (0:Nat)).1) (aj (ab rst rst (0:Nat)).2.1 (ByteArray.mk #[47,47]).data.toList).1).hf) ((RS.mk (ab rst rst (0:Nat)).1 us pw hk hs hn hp port false pn pl hq q hf fg false (aw (ab rst rst (0:Nat)).1) (aj (ab rst rst (0:Nat)).2.1 (ByteArray.mk #[47,47]).data.toList).1).fg) ((RS.mk (ab rst rst (0:Nat)).1 us pw hk hs hn hp port false pn pl hq q hf fg false (aw (ab rst rst (0:Nat)).1) (aj (ab rst rst (0:Nat)).2.1 (ByteArray.mk #[47,47]).data.toList).1).bare) ((RS.mk (ab rst rst (0:Nat)).1 us pw hk hs hn hp port false pn pl hq q hf fg false (aw (ab rst rst (0:Nat)).1) (aj (ab rst rst (0:Nat)).2.1 (ByteArray.mk #[47,47]).data.toList).1).sp) ((RS.mk (ab rst rst (0:Nat)).1 us pw hk hs hn hp port false pn pl hq q hf fg false (aw (ab rst rst (0:Nat)).1) (aj (ab rst rst (0:Nat)).2.1 (ByteArray.mk #[47,47]).data.toList).1).rst))]∧
 ((RS.mk sc us pw hk hs hn hp port false pn pl hq q hf fg bare sp rst).ao=(RS.mk (ab rst rst (0:Nat)).1 us pw hk hs hn hp port false pn pl hq q hf fg false (aw (ab rst rst (0:Nat)).1) (aj (ab rst rst (0:Nat)).2.1 (ByteArray.mk #[47,47]).data.toList).1).b9∧
 List.length (RS.mk (ab rst rst (0:Nat)).1 us pw hk hs hn hp port false pn pl hq q hf fg false (aw (ab rst rst (0:Nat)).1) (aj (ab rst rst (0:Nat)).2.1 (ByteArray.mk #[47,47]).data.toList).1).rst≤(300000:Nat)∧
 (RS.mk (ab rst rst (0:Nat)).1 us pw hk hs hn hp port false pn pl hq q hf fg false (aw (ab rst rst (0:Nat)).1) (aj (ab rst rst (0:Nat)).2.1 (ByteArray.mk #[47,47]).data.toList).1).pl.length≤(100000:Nat))∧
 Aj k sc us pw hk hs hn hp port pn pl hq q hf fg bare sp rst)∧
 ((aj (ab rst rst (0:Nat)).2.1 (ByteArray.mk #[47,47]).data.toList).2=false→
 True∧
 ((aj (aj (ab rst rst (0:Nat)).2.1 (ByteArray.mk #[47,47]).data.toList).1 (ByteArray.mk #[47]).data.toList).2=true→
 VS.mk [] [(0,PV.ptr (0:Nat) (0:Nat)),(2,PV.int .i64 (0:Int)),(3,PV.int .i64 (0:Int)),(6,PV.bool !decide ((0:Int)=(0:Int))),(10,PV.bool false),(16,PV.bool (decide ((ab rst rst (0:Nat)).1=(ByteArray.mk #[102,105,108,101]).data.toList))),(26,PV.undef),(28,PV.bool false),(51,PV.bool (aw (ab rst rst (0:Nat)).1)),(58,PV.bool (aj (ab rst rst (0:Nat)).2.1 (ByteArray.mk #[47,47]).data.toList).2),(61,PV.bool (aj (aj (ab rst rst (0:Nat)).2.1 (ByteArray.mk #[47,47]).data.toList).1 (ByteArray.mk #[47]).data.toList).2),(71,PV.undef),(77,PV.undef),(81,PV.undef),(87,PV.undef),(97,PV.undef)] [((0:Nat),bS (PV.raw (Go.Value.pointer none)) 1 ((ab rst rst (0:Nat)).1) us pw hk hs hn hp port false pn pl hq q hf fg false (aw (ab rst rst (0:Nat)).1) ((aj (aj (ab rst rst (0:Nat)).2.1 (ByteArray.mk #[47,47]).data.toList).1 (ByteArray.mk #[47]).data.toList).1))]=VS.mk [] [(0,PV.ptr (0:Nat) (0:Nat)),(2,PV.int .i64 (0:Int)),(3,PV.int .i64 (0:Int)),(6,PV.bool !decide ((0:Int)=(0:Int))),(10,PV.bool false),(16,PV.bool (decide ((ab rst rst (0:Nat)).1=(ByteArray.mk #[102,105,108,101]).data.toList))),(26,PV.undef),(28,PV.bool false),(51,PV.bool (aw (ab rst rst (0:Nat)).1)),(58,PV.bool (aj (ab rst rst (0:Nat)).2.1 (ByteArray.mk #[47,47]).data.toList).2),(61,PV.bool (aj (aj (ab rst rst (0:Nat)).2.1 (ByteArray.mk #[47,47]).data.toList).1 (ByteArray.mk #[47]).data.toList).2),(71,PV.undef),(77,PV.undef),(81,PV.undef),(87,PV.undef),(97,PV.undef)] [((0:Nat),bS (PV.raw (Go.Value.pointer none)) 1 ((RS.mk (ab rst rst (0:Nat)).1 us pw hk hs hn hp port false pn pl hq q hf fg false (aw (ab rst rst (0:Nat)).1) (aj (aj (ab rst rst (0:Nat)).2.1 (ByteArray.mk #[47,47]).data.toList).1 (ByteArray.mk #[47]).data.toList).1).sc) ((RS.mk (ab rst rst (0:Nat)).1 us pw hk hs hn hp port false pn pl hq q hf fg false (aw (ab rst rst (0:Nat)).1) (aj (aj (ab rst rst (0:Nat)).2.1 (ByteArray.mk #[47,47]).data.toList).1 (ByteArray.mk #[47]).data.toList).1).us) ((RS.mk (ab rst rst (0:Nat)).1 us pw hk hs hn hp port false pn pl hq q hf fg false (aw (ab rst rst (0:Nat)).1) (aj (aj (ab rst rst (0:Nat)).2.1 (ByteArray.mk #[47,47]).data.toList).1 (ByteArray.mk #[47]).data.toList).1).pw) ((RS.mk (ab rst rst (0:Nat)).1 us pw hk hs hn hp port false pn pl hq q hf fg false (aw (ab rst rst (0:Nat)).1) (aj (aj (ab rst rst (0:Nat)).2.1 (ByteArray.mk #[47,47]).data.toList).1 (ByteArray.mk #[47]).data.toList).1).hk) ((RS.mk (ab rst rst (0:Nat)).1 us pw hk hs hn hp port false pn pl hq q hf fg false (aw (ab rst rst (0:Nat)).1) (aj (aj (ab rst rst (0:Nat)).2.1 (ByteArray.mk #[47,47]).data.toList).1 (ByteArray.mk #[47]).data.toList).1).hs) ((RS.mk (ab rst rst (0:Nat)).1 us pw hk hs hn hp port false pn pl hq q hf fg false (aw (ab rst rst (0:Nat)).1) (aj (aj (ab rst rst (0:Nat)).2.1 (ByteArray.mk #[47,47]).data.toList).1 (ByteArray.mk #[47]).data.toList).1).hn) ((RS.mk (ab rst rst (0:Nat)).1 us pw hk hs hn hp port false pn pl hq q hf fg false (aw (ab rst rst (0:Nat)).1) (aj (aj (ab rst rst (0:Nat)).2.1 (ByteArray.mk #[47,47]).data.toList).1 (ByteArray.mk #[47]).data.toList).1).hp) ((RS.mk (ab rst rst (0:Nat)).1 us pw hk hs hn hp port false pn pl hq q hf fg false (aw (ab rst rst (0:Nat)).1) (aj (aj (ab rst rst (0:Nat)).2.1 (ByteArray.mk #[47,47]).data.toList).1 (ByteArray.mk #[47]).data.toList).1).port) ((RS.mk (ab rst rst (0:Nat)).1 us pw hk hs hn hp port false pn pl hq q hf fg false (aw (ab rst rst (0:Nat)).1) (aj (aj (ab rst rst (0:Nat)).2.1 (ByteArray.mk #[47,47]).data.toList).1 (ByteArray.mk #[47]).data.toList).1).opq) ((RS.mk (ab rst rst (0:Nat)).1 us pw hk hs hn hp port false pn pl hq q hf fg false (aw (ab rst rst (0:Nat)).1) (aj (aj (ab rst rst (0:Nat)).2.1 (ByteArray.mk #[47,47]).data.toList).1 (ByteArray.mk #[47]).data.toList).1).pn) ((RS.mk (ab rst rst (0:Nat)).1 us pw hk hs hn hp port false pn pl hq q hf fg false (aw (ab rst rst (0:Nat)).1) (aj (aj (ab rst rst (0:Nat)).2.1 (ByteArray.mk #[47,47]).data.toList).1 (ByteArray.mk #[47]).data.toList).1).pl) ((RS.mk (ab rst rst (0:Nat)).1 us pw hk hs hn hp port false pn pl hq q hf fg false (aw (ab rst rst (0:Nat)).1) (aj (aj (ab rst rst (0:Nat)).2.1 (ByteArray.mk #[47,47]).data.toList).1 (ByteArray.mk #[47]).data.toList).1).hq) ((RS.mk (ab rst rst (0:Nat)).1 us pw hk hs hn hp port false pn pl hq q hf fg false (aw (ab rst rst (0:Nat)).1) (aj (aj (ab rst rst (0:Nat)).2.1 (ByteArray.mk #[47,47]).data.toList).1 (ByteArray.mk #[47]).data.toList).1).q) ((RS.mk (ab rst rst (0:Nat)).1 us pw hk hs hn hp port false pn pl hq q hf fg false (aw (ab rst rst (0:Nat)).1) (aj (aj (ab rst rst (0:Nat)).2.1 (ByteArray.mk #[47,47]).data.toList).1 (ByteArray.mk #[47]).data.toList).1).hf) ((RS.mk (ab rst rst (0:Nat)).1 us pw hk hs hn hp port false pn pl hq q hf fg false (aw (ab rst rst (0:Nat)).1) (aj (aj (ab rst rst (0:Nat)).2.1 (ByteArray.mk #[47,47]).data.toList).1 (ByteArray.mk #[47]).data.toList).1).fg) ((RS.mk (ab rst rst (0:Nat)).1 us pw hk hs hn hp port false pn pl hq q hf fg false (aw (ab rst rst (0:Nat)).1) (aj (aj (ab rst rst (0:Nat)).2.1 (ByteArray.mk #[47,47]).data.toList).1 (ByteArray.mk #[47]).data.toList).1).bare) ((RS.mk (ab rst rst (0:Nat)).1 us pw hk hs hn hp port false pn pl hq q hf fg false (aw (ab rst rst (0:Nat)).1) (aj (aj (ab rst rst (0:Nat)).2.1 (ByteArray.mk #[47,47]).data.toList).1 (ByteArray.mk #[47]).data.toList).1).sp) ((RS.mk (ab rst rst (0:Nat)).1 us pw hk hs hn hp port false pn pl hq q hf fg false (aw (ab rst rst (0:Nat)).1) (aj (aj (ab rst rst (0:Nat)).2.1 (ByteArray.mk #[47,47]).data.toList).1 (ByteArray.mk #[47]).data.toList).1).rst))]∧
 ((RS.mk sc us pw hk hs hn hp port false pn pl hq q hf fg bare sp rst).ao=((RS.mk (ab rst rst (0:Nat)).1 us pw hk hs hn hp port false pn pl hq q hf fg false (aw (ab rst rst (0:Nat)).1) (aj (aj (ab rst rst (0:Nat)).2.1 (ByteArray.mk #[47,47]).data.toList).1 (ByteArray.mk #[47]).data.toList).1).path.tail,(0:Int))∧
 List.length (RS.mk (ab rst rst (0:Nat)).1 us pw hk hs hn hp port false pn pl hq q hf fg false (aw (ab rst rst (0:Nat)).1) (aj (aj (ab rst rst (0:Nat)).2.1 (ByteArray.mk #[47,47]).data.toList).1 (ByteArray.mk #[47]).data.toList).1).rst≤(300000:Nat)∧
 (RS.mk (ab rst rst (0:Nat)).1 us pw hk hs hn hp port false pn pl hq q hf fg false (aw (ab rst rst (0:Nat)).1) (aj (aj (ab rst rst (0:Nat)).2.1 (ByteArray.mk #[47,47]).data.toList).1 (ByteArray.mk #[47]).data.toList).1).pl.length≤(100000:Nat))∧
 IB k sc us pw hk hs hn hp port pn pl hq q hf fg bare sp rst)∧
 ((aj (aj (ab rst rst (0:Nat)).2.1 (ByteArray.mk #[47,47]).data.toList).1 (ByteArray.mk #[47]).data.toList).2=false→
 (List.length (aj (aj (ab rst rst (0:Nat)).2.1 (ByteArray.mk #[47,47]).data.toList).1 (ByteArray.mk #[47]).data.toList).1).le (300000:Nat)∧
 (aa (aj (aj (ab rst rst (0:Nat)).2.1 (ByteArray.mk #[47,47]).data.toList).1 (ByteArray.mk #[47]).data.toList).1 ↑(aE (aj (aj (ab rst rst (0:Nat)).2.1 (ByteArray.mk #[47,47]).data.toList).1 (ByteArray.mk #[47]).data.toList).1)).length.le (300000:Nat)∧
 (List.length (bH (aa (aj (aj (ab rst rst (0:Nat)).2.1 (ByteArray.mk #[47,47]).data.toList).1 (ByteArray.mk #[47]).data.toList).1 ↑(aE (aj (aj (ab rst rst (0:Nat)).2.1 (ByteArray.mk #[47,47]).data.toList).1 (ByteArray.mk #[47]).data.toList).1)))).le (300000:Nat)∧
 k (PV.int .i64 (0:Int)) [bS (PV.raw (Go.Value.pointer none)) 0 ((ab rst rst (0:Nat)).1) us pw hk hs hn hp port true false ([nz (ae (aj (aj (ab rst rst (0:Nat)).2.1 (ByteArray.mk #[47,47]).data.toList).1 (ByteArray.mk #[47]).data.toList).1 ↑(aE (aj (aj (ab rst rst (0:Nat)).2.1 (ByteArray.mk #[47,47]).data.toList).1 (ByteArray.mk #[47]).data.toList).1)) (aa (aj (aj (ab rst rst (0:Nat)).2.1 (ByteArray.mk #[47,47]).data.toList).1 (ByteArray.mk #[47]).data.toList).1 ↑(aE (aj (aj (ab rst rst (0:Nat)).2.1 (ByteArray.mk #[47,47]).data.toList).1 (ByteArray.mk #[47]).data.toList).1))]) (dU (aa (aj (aj (ab rst rst (0:Nat)).2.1 (ByteArray.mk #[47,47]).data.toList).1 (ByteArray.mk #[47]).data.toList).1 ↑(aE (aj (aj (ab rst rst (0:Nat)).2.1 (ByteArray.mk #[47,47]).data.toList).1 (ByteArray.mk #[47]).data.toList).1)) hq) (dV (aw (ab rst rst (0:Nat)).1) (aa (aj (aj (ab rst rst (0:Nat)).2.1 (ByteArray.mk #[47,47]).data.toList).1 (ByteArray.mk #[47]).data.toList).1 ↑(aE (aj (aj (ab rst rst (0:Nat)).2.1 (ByteArray.mk #[47,47]).data.toList).1 (ByteArray.mk #[47]).data.toList).1)) q) (dW (bH (aa (aj (aj (ab rst rst (0:Nat)).2.1 (ByteArray.mk #[47,47]).data.toList).1 (ByteArray.mk #[47]).data.toList).1 ↑(aE (aj (aj (ab rst rst (0:Nat)).2.1 (ByteArray.mk #[47,47]).data.toList).1 (ByteArray.mk #[47]).data.toList).1))) hf) (dX (bH (aa (aj (aj (ab rst rst (0:Nat)).2.1 (ByteArray.mk #[47,47]).data.toList).1 (ByteArray.mk #[47]).data.toList).1 ↑(aE (aj (aj (ab rst rst (0:Nat)).2.1 (ByteArray.mk #[47,47]).data.toList).1 (ByteArray.mk #[47]).data.toList).1))) fg) false (aw (ab rst rst (0:Nat)).1) (dY (bH (aa (aj (aj (ab rst rst (0:Nat)).2.1 (ByteArray.mk #[47,47]).data.toList).1 (ByteArray.mk #[47]).data.toList).1 ↑(aE (aj (aj (ab rst rst (0:Nat)).2.1 (ByteArray.mk #[47,47]).data.toList).1 (ByteArray.mk #[47]).data.toList).1))))])))))∧
 (aw (ab rst rst (0:Nat)).1=!true→
 (false=false→
 false=true→
 True)∧
 (false=true→
 VS.mk [] [(0,PV.ptr (0:Nat) (0:Nat)),(2,PV.int .i64 (0:Int)),(3,PV.int .i64 (0:Int)),(6,PV.bool !decide ((0:Int)=(0:Int))),(10,PV.bool false),(16,PV.bool (decide ((ab rst rst (0:Nat)).1=(ByteArray.mk #[102,105,108,101]).data.toList))),(26,PV.undef),(28,PV.bool false),(51,PV.undef),(58,PV.undef),(61,PV.undef),(71,PV.undef),(77,PV.undef),(81,PV.undef),(87,PV.undef),(97,PV.undef)] [((0:Nat),bS (PV.raw (Go.Value.pointer none)) 1 ((ab rst rst (0:Nat)).1) us pw hk hs hn hp port false pn pl hq q hf fg false (aw (ab rst rst (0:Nat)).1) ((ab rst rst (0:Nat)).2.1))]=VS.mk [] [] []∧
 False∧
 ∀(x:RS),False→
 False)∧
 (false=false→
 (aw (ab rst rst (0:Nat)).1=true→
 (List.length (ab rst rst (0:Nat)).2.1).le (300000:Nat)∧
 VS.mk [] [(0,PV.ptr (0:Nat) (0:Nat)),(2,PV.int .i64 (0:Int)),(3,PV.int .i64 (0:Int)),(6,PV.bool !decide ((0:Int)=(0:Int))),(10,PV.bool false),(16,PV.bool (decide ((ab rst rst (0:Nat)).1=(ByteArray.mk #[102,105,108,101]).data.toList))),(26,PV.undef),(28,PV.bool false),(51,PV.bool (aw (ab rst rst (0:Nat)).1)),(58,PV.undef),(61,PV.undef),(71,PV.undef),(77,PV.undef),(81,PV.undef),(87,PV.undef),(97,PV.undef)] [((0:Nat),bS (PV.raw (Go.Value.pointer none)) 1 ((ab rst rst (0:Nat)).1) us pw hk hs hn hp port false pn pl hq q hf fg false (aw (ab rst rst (0:Nat)).1) (aB (List.length (ab rst rst (0:Nat)).2.1) (aw (ab rst rst (0:Nat)).1) (0:Int) (ab rst rst (0:Nat)).2.1))]=VS.mk [] [(0,PV.ptr (0:Nat) (0:Nat)),(2,PV.int .i64 (0:Int)),(3,PV.int .i64 (0:Int)),(6,PV.bool !decide ((0:Int)=(0:Int))),(10,PV.bool false),(16,PV.bool (decide ((ab rst rst (0:Nat)).1=(ByteArray.mk #[102,105,108,101]).data.toList))),(26,PV.undef),(28,PV.bool false),(51,PV.bool (aw (ab rst rst (0:Nat)).1)),(58,PV.undef),(61,PV.undef),(71,PV.undef),(77,PV.undef),(81,PV.undef),(87,PV.undef),(97,PV.undef)] [((0:Nat),bS (PV.raw (Go.Value.pointer none)) 1 ((RS.mk (ab rst rst (0:Nat)).1 us pw hk hs hn hp port false pn pl hq q hf fg false (aw (ab rst rst (0:Nat)).1) (aB (List.length (ab rst rst (0:Nat)).2.1) (aw (ab rst rst (0:Nat)).1) (0:Int) (ab rst rst (0:Nat)).2.1)).sc) ((RS.mk (ab rst rst (0:Nat)).1 us pw hk hs hn hp port false pn pl hq q hf fg false (aw (ab rst rst (0:Nat)).1) (aB (List.length (ab rst rst (0:Nat)).2.1) (aw (ab rst rst (0:Nat)).1) (0:Int) (ab rst rst (0:Nat)).2.1)).us) ((RS.mk (ab rst rst (0:Nat)).1 us pw hk hs hn hp port false pn pl hq q hf fg false (aw (ab rst rst (0:Nat)).1) (aB (List.length (ab rst rst (0:Nat)).2.1) (aw (ab rst rst (0:Nat)).1) (0:Int) (ab rst rst (0:Nat)).2.1)).pw) ((RS.mk (ab rst rst (0:Nat)).1 us pw hk hs hn hp port false pn pl hq q hf fg false (aw (ab rst rst (0:Nat)).1) (aB (List.length (ab rst rst (0:Nat)).2.1) (aw (ab rst rst (0:Nat)).1) (0:Int) (ab rst rst (0:Nat)).2.1)).hk) ((RS.mk (ab rst rst (0:Nat)).1 us pw hk hs hn hp port false pn pl hq q hf fg false (aw (ab rst rst (0:Nat)).1) (aB (List.length (ab rst rst (0:Nat)).2.1) (aw (ab rst rst (0:Nat)).1) (0:Int) (ab rst rst (0:Nat)).2.1)).hs) ((RS.mk (ab rst rst (0:Nat)).1 us pw hk hs hn hp port false pn pl hq q hf fg false (aw (ab rst rst (0:Nat)).1) (aB (List.length (ab rst rst (0:Nat)).2.1) (aw (ab rst rst (0:Nat)).1) (0:Int) (ab rst rst (0:Nat)).2.1)).hn) ((RS.mk (ab rst rst (0:Nat)).1 us pw hk hs hn hp port false pn pl hq q hf fg false (aw (ab rst rst (0:Nat)).1) (aB (List.length (ab rst rst (0:Nat)).2.1) (aw (ab rst rst (0:Nat)).1) (0:Int) (ab rst rst (0:Nat)).2.1)).hp) ((RS.mk (ab rst rst (0:Nat)).1 us pw hk hs hn hp port false pn pl hq q hf fg false (aw (ab rst rst (0:Nat)).1) (aB (List.length (ab rst rst (0:Nat)).2.1) (aw (ab rst rst (0:Nat)).1) (0:Int) (ab rst rst (0:Nat)).2.1)).port) ((RS.mk (ab rst rst (0:Nat)).1 us pw hk hs hn hp port false pn pl hq q hf fg false (aw (ab rst rst (0:Nat)).1) (aB (List.length (ab rst rst (0:Nat)).2.1) (aw (ab rst rst (0:Nat)).1) (0:Int) (ab rst rst (0:Nat)).2.1)).opq) ((RS.mk (ab rst rst (0:Nat)).1 us pw hk hs hn hp port false pn pl hq q hf fg false (aw (ab rst rst (0:Nat)).1) (aB (List.length (ab rst rst (0:Nat)).2.1) (aw (ab rst rst (0:Nat)).1) (0:Int) (ab rst rst (0:Nat)).2.1)).pn) ((RS.mk (ab rst rst (0:Nat)).1 us pw hk hs hn hp port false pn pl hq q hf fg false (aw (ab rst rst (0:Nat)).1) (aB (List.length (ab rst rst (0:Nat)).2.1) (aw (ab rst rst (0:Nat)).1) (0:Int) (ab rst rst (0:Nat)).2.1)).pl) ((RS.mk (ab rst rst (0:Nat)).1 us pw hk hs hn hp port false pn pl hq q hf fg false (aw (ab rst rst (0:Nat)).1) (aB (List.length (ab rst rst (0:Nat)).2.1) (aw (ab rst rst (0:Nat)).1) (0:Int) (ab rst rst (0:Nat)).2.1)).hq) ((RS.mk (ab rst rst (0:Nat)).1 us pw hk hs hn hp port false pn pl hq q hf fg false (aw (ab rst rst (0:Nat)).1) (aB (List.length (ab rst rst (0:Nat)).2.1) (aw (ab rst rst (0:Nat)).1) (0:Int) (ab rst rst (0:Nat)).2.1)).q) ((RS.mk (ab rst rst (0:Nat)).1 us pw hk hs hn hp port false pn pl hq q hf fg false (aw (ab rst rst (0:Nat)).1) (aB (List.length (ab rst rst (0:Nat)).2.1) (aw (ab rst rst (0:Nat)).1) (0:Int) (ab rst rst (0:Nat)).2.1)).hf) ((RS.mk (ab rst rst (0:Nat)).1 us pw hk hs hn hp port false pn pl hq q hf fg false (aw (ab rst rst (0:Nat)).1) (aB (List.length (ab rst rst (0:Nat)).2.1) (aw (ab rst rst (0:Nat)).1) (0:Int) (ab rst rst (0:Nat)).2.1)).fg) ((RS.mk (ab rst rst (0:Nat)).1 us pw hk hs hn hp port false pn pl hq q hf fg false (aw (ab rst rst (0:Nat)).1) (aB (List.length (ab rst rst (0:Nat)).2.1) (aw (ab rst rst (0:Nat)).1) (0:Int) (ab rst rst (0:Nat)).2.1)).bare) ((RS.mk (ab rst rst (0:Nat)).1 us pw hk hs hn hp port false pn pl hq q hf fg false (aw (ab rst rst (0:Nat)).1) (aB (List.length (ab rst rst (0:Nat)).2.1) (aw (ab rst rst (0:Nat)).1) (0:Int) (ab rst rst (0:Nat)).2.1)).sp) ((RS.mk (ab rst rst (0:Nat)).1 us pw hk hs hn hp port false pn pl hq q hf fg false (aw (ab rst rst (0:Nat)).1) (aB (List.length (ab rst rst (0:Nat)).2.1) (aw (ab rst rst (0:Nat)).1) (0:Int) (ab rst rst (0:Nat)).2.1)).rst))]∧
 ((RS.mk sc us pw hk hs hn hp port false pn pl hq q hf fg bare sp rst).ao=(RS.mk (ab rst rst (0:Nat)).1 us pw hk hs hn hp port false pn pl hq q hf fg false (aw (ab rst rst (0:Nat)).1) (aB (List.length (ab rst rst (0:Nat)).2.1) (aw (ab rst rst (0:Nat)).1) (0:Int) (ab rst rst (0:Nat)).2.1)).b9∧
 List.length (RS.mk (ab rst rst (0:Nat)).1 us pw hk hs hn hp port false pn pl hq q hf fg false (aw (ab rst rst (0:Nat)).1) (aB (List.length (ab rst rst (0:Nat)).2.1) (aw (ab rst rst (0:Nat)).1) (0:Int) (ab rst rst (0:Nat)).2.1)).rst≤(300000:Nat)∧
 (RS.mk (ab rst rst (0:Nat)).1 us pw hk hs hn hp port false pn pl hq q hf fg false (aw (ab rst rst (0:Nat)).1) (aB (List.length (ab rst rst (0:Nat)).2.1) (aw (ab rst rst (0:Nat)).1) (0:Int) (ab rst rst (0:Nat)).2.1)).pl.length≤(100000:Nat))∧
 Aj k sc us pw hk hs hn hp port pn pl hq q hf fg bare sp rst)∧
 (aw (ab rst rst (0:Nat)).1=false→
 True∧
 ((aj (ab rst rst (0:Nat)).2.1 (ByteArray.mk #[47,47]).data.toList).2=true→
 VS.mk [] [(0,PV.ptr (0:Nat) (0:Nat)),(2,PV.int .i64 (0:Int)),(3,PV.int .i64 (0:Int)),(6,PV.bool !decide ((0:Int)=(0:Int))),(10,PV.bool false),(16,PV.bool (decide ((ab rst rst (0:Nat)).1=(ByteArray.mk #[102,105,108,101]).data.toList))),(26,PV.undef),(28,PV.bool false),(51,PV.bool (aw (ab rst rst (0:Nat)).1)),(58,PV.bool (aj (ab rst rst (0:Nat)).2.1 (ByteArray.mk #[47,47]).data.toList).2),(61,PV.undef),(71,PV.undef),(77,PV.undef),(81,PV.undef),(87,PV.undef),(97,PV.undef)] [((0:Nat),bS (PV.raw (Go.Value.pointer none)) 1 ((ab rst rst (0:Nat)).1) us pw hk hs hn hp port false pn pl hq q hf fg false (aw (ab rst rst (0:Nat)).1) ((aj (ab rst rst (0:Nat)).2.1 (ByteArray.mk #[47,47]).data.toList).1))]=VS.mk [] [(0,PV.ptr (0:Nat) (0:Nat)),(2,PV.int .i64 (0:Int)),(3,PV.int .i64 (0:Int)),(6,PV.bool !decide ((0:Int)=(0:Int))),(10,PV.bool false),(16,PV.bool (decide ((ab rst rst (0:Nat)).1=(ByteArray.mk #[102,105,108,101]).data.toList))),(26,PV.undef),(28,PV.bool false),(51,PV.bool (aw (ab rst rst (0:Nat)).1)),(58,PV.bool (aj (ab rst rst (0:Nat)).2.1 (ByteArray.mk #[47,47]).data.toList).2),(61,PV.undef),(71,PV.undef),(77,PV.undef),(81,PV.undef),(87,PV.undef),(97,PV.undef)] [((0:Nat),bS (PV.raw (Go.Value.pointer none)) 1 ((RS.mk (ab rst rst (0:Nat)).1 us pw hk hs hn hp port false pn pl hq q hf fg false (aw (ab rst rst (0:Nat)).1) (aj (ab rst rst (0:Nat)).2.1 (ByteArray.mk #[47,47]).data.toList).1).sc) ((RS.mk (ab rst rst (0:Nat)).1 us pw hk hs hn hp port false pn pl hq q hf fg false (aw (ab rst rst (0:Nat)).1) (aj (ab rst rst (0:Nat)).2.1 (ByteArray.mk #[47,47]).data.toList).1).us) ((RS.mk (ab rst rst (0:Nat)).1 us pw hk hs hn hp port false pn pl hq q hf fg false (aw (ab rst rst (0:Nat)).1) (aj (ab rst rst (0:Nat)).2.1 (ByteArray.mk #[47,47]).data.toList).1).pw) ((RS.mk (ab rst rst (0:Nat)).1 us pw hk hs hn hp port false pn pl hq q hf fg false (aw (ab rst rst (0:Nat)).1) (aj (ab rst rst (0:Nat)).2.1 (ByteArray.mk #[47,47]).data.toList).1).hk) ((RS.mk (ab rst rst (0:Nat)).1 us pw hk hs hn hp port false pn pl hq q hf fg false (aw (ab rst rst (0:Nat)).1) (aj (ab rst rst (0:Nat)).2.1 (ByteArray.mk #[47,47]).data.toList).1).hs) ((RS.mk (ab rst rst (0:Nat)).1 us pw hk hs hn hp port false pn pl hq q hf fg false (aw (ab rst rst (0:Nat)).1) (aj (ab rst rst (0:Nat)).2.1 (ByteArray.mk #[47,47]).data.toList).1).hn) ((RS.mk (ab rst rst (0:Nat)).1 us pw hk hs hn hp port false pn pl hq q hf fg false (aw (ab rst rst (0:Nat)).1) (aj (ab rst rst (0:Nat)).2.1 (ByteArray.mk #[47,47]).data.toList).1).hp) ((RS.mk (ab rst rst (0:Nat)).1 us pw hk hs hn hp port false pn pl hq q hf fg false (aw (ab rst rst (0:Nat)).1) (aj (ab rst rst (0:Nat)).2.1 (ByteArray.mk #[47,47]).data.toList).1).port) ((RS.mk (ab rst rst (0:Nat)).1 us pw hk hs hn hp port false pn pl hq q hf fg false (aw (ab rst rst (0:Nat)).1) (aj (ab rst rst (0:Nat)).2.1 (ByteArray.mk #[47,47]).data.toList).1).opq) ((RS.mk (ab rst rst (0:Nat)).1 us pw hk hs hn hp port false pn pl hq q hf fg false (aw (ab rst rst (0:Nat)).1) (aj (ab rst rst (0:Nat)).2.1 (ByteArray.mk #[47,47]).data.toList).1).pn) ((RS.mk (ab rst rst (0:Nat)).1 us pw hk hs hn hp port false pn pl hq q hf fg false (aw (ab rst rst (0:Nat)).1) (aj (ab rst rst (0:Nat)).2.1 (ByteArray.mk #[47,47]).data.toList).1).pl) ((RS.mk (ab rst rst (0:Nat)).1 us pw hk hs hn hp port false pn pl hq q hf fg false (aw (ab rst rst (0:Nat)).1) (aj (ab rst rst (0:Nat)).2.1 (ByteArray.mk #[47,47]).data.toList).1).hq) ((RS.mk (ab rst rst (0:Nat)).1 us pw hk hs hn hp port false pn pl hq q hf fg false (aw (ab rst rst (0:Nat)).1) (aj (ab rst rst (0:Nat)).2.1 (ByteArray.mk #[47,47]).data.toList).1).q) ((RS.mk (ab rst rst (0:Nat)).1 us pw hk hs hn hp port false pn pl hq q hf fg false (aw (ab rst rst (0:Nat)).1) (aj (ab rst rst (0:Nat)).2.1 (ByteArray.mk #[47,47]).data.toList).1).hf) ((RS.mk (ab rst rst (0:Nat)).1 us pw hk hs hn hp port false pn pl hq q hf fg false (aw (ab rst rst (0:Nat)).1) (aj (ab rst rst (0:Nat)).2.1 (ByteArray.mk #[47,47]).data.toList).1).fg) ((RS.mk (ab rst rst (0:Nat)).1 us pw hk hs hn hp port false pn pl hq q hf fg false (aw (ab rst rst (0:Nat)).1) (aj (ab rst rst (0:Nat)).2.1 (ByteArray.mk #[47,47]).data.toList).1).bare) ((RS.mk (ab rst rst (0:Nat)).1 us pw hk hs hn hp port false pn pl hq q hf fg false (aw (ab rst rst (0:Nat)).1) (aj (ab rst rst (0:Nat)).2.1 (ByteArray.mk #[47,47]).data.toList).1).sp) ((RS.mk (ab rst rst (0:Nat)).1 us pw hk hs hn hp port false pn pl hq q hf fg false (aw (ab rst rst (0:Nat)).1) (aj (ab rst rst (0:Nat)).2.1 (ByteArray.mk #[47,47]).data.toList).1).rst))]∧
 ((RS.mk sc us pw hk hs hn hp port false pn pl hq q hf fg bare sp rst).ao=(RS.mk (ab rst rst (0:Nat)).1 us pw hk hs hn hp port false pn pl hq q hf fg false (aw (ab rst rst (0:Nat)).1) (aj (ab rst rst (0:Nat)).2.1 (ByteArray.mk #[47,47]).data.toList).1).b9∧
 List.length (RS.mk (ab rst rst (0:Nat)).1 us pw hk hs hn hp port false pn pl hq q hf fg false (aw (ab rst rst (0:Nat)).1) (aj (ab rst rst (0:Nat)).2.1 (ByteArray.mk #[47,47]).data.toList).1).rst≤(300000:Nat)∧
 (RS.mk (ab rst rst (0:Nat)).1 us pw hk hs hn hp port false pn pl hq q hf fg false (aw (ab rst rst (0:Nat)).1) (aj (ab rst rst (0:Nat)).2.1 (ByteArray.mk #[47,47]).data.toList).1).pl.length≤(100000:Nat))∧
 Aj k sc us pw hk hs hn hp port pn pl hq q hf fg bare sp rst)∧
 ((aj (ab rst rst (0:Nat)).2.1 (ByteArray.mk #[47,47]).data.toList).2=false→
 True∧
 ((aj (aj (ab rst rst (0:Nat)).2.1 (ByteArray.mk #[47,47]).data.toList).1 (ByteArray.mk #[47]).data.toList).2=true→
 VS.mk [] [(0,PV.ptr (0:Nat) (0:Nat)),(2,PV.int .i64 (0:Int)),(3,PV.int .i64 (0:Int)),(6,PV.bool !decide ((0:Int)=(0:Int))),(10,PV.bool false),(16,PV.bool (decide ((ab rst rst (0:Nat)).1=(ByteArray.mk #[102,105,108,101]).data.toList))),(26,PV.undef),(28,PV.bool false),(51,PV.bool (aw (ab rst rst (0:Nat)).1)),(58,PV.bool (aj (ab rst rst (0:Nat)).2.1 (ByteArray.mk #[47,47]).data.toList).2),(61,PV.bool (aj (aj (ab rst rst (0:Nat)).2.1 (ByteArray.mk #[47,47]).data.toList).1 (ByteArray.mk #[47]).data.toList).2),(71,PV.undef),(77,PV.undef),(81,PV.undef),(87,PV.undef),(97,PV.undef)] [((0:Nat),bS (PV.raw (Go.Value.pointer none)) 1 ((ab rst rst (0:Nat)).1) us pw hk hs hn hp port false pn pl hq q hf fg false (aw (ab rst rst (0:Nat)).1) ((aj (aj (ab rst rst (0:Nat)).2.1 (ByteArray.mk #[47,47]).data.toList).1 (ByteArray.mk #[47]).data.toList).1))]=VS.mk [] [(0,PV.ptr (0:Nat) (0:Nat)),(2,PV.int .i64 (0:Int)),(3,PV.int .i64 (0:Int)),(6,PV.bool !decide ((0:Int)=(0:Int))),(10,PV.bool false),(16,PV.bool (decide ((ab rst rst (0:Nat)).1=(ByteArray.mk #[102,105,108,101]).data.toList))),(26,PV.undef),(28,PV.bool false),(51,PV.bool (aw (ab rst rst (0:Nat)).1)),(58,PV.bool (aj (ab rst rst (0:Nat)).2.1 (ByteArray.mk #[47,47]).data.toList).2),(61,PV.bool (aj (aj (ab rst rst (0:Nat)).2.1 (ByteArray.mk #[47,47]).data.toList).1 (ByteArray.mk #[47]).data.toList).2),(71,PV.undef),(77,PV.undef),(81,PV.undef),(87,PV.undef),(97,PV.undef)] [((0:Nat),bS (PV.raw (Go.Value.pointer none)) 1 ((RS.mk (ab rst rst (0:Nat)).1 us pw hk hs hn hp port false pn pl hq q hf fg false (aw (ab rst rst (0:Nat)).1) (aj (aj (ab rst rst (0:Nat)).2.1 (ByteArray.mk #[47,47]).data.toList).1 (ByteArray.mk #[47]).data.toList).1).sc) ((RS.mk (ab rst rst (0:Nat)).1 us pw hk hs hn hp port false pn pl hq q hf fg false (aw (ab rst rst (0:Nat)).1) (aj (aj (ab rst rst (0:Nat)).2.1 (ByteArray.mk #[47,47]).data.toList).1 (ByteArray.mk #[47]).data.toList).1).us) ((RS.mk (ab rst rst (0:Nat)).1 us pw hk hs hn hp port false pn pl hq q hf fg false (aw (ab rst rst (0:Nat)).1) (aj (aj (ab rst rst (0:Nat)).2.1 (ByteArray.mk #[47,47]).data.toList).1 (ByteArray.mk #[47]).data.toList).1).pw) ((RS.mk (ab rst rst (0:Nat)).1 us pw hk hs hn hp port false pn pl hq q hf fg false (aw (ab rst rst (0:Nat)).1) (aj (aj (ab rst rst (0:Nat)).2.1 (ByteArray.mk #[47,47]).data.toList).1 (ByteArray.mk #[47]).data.toList).1).hk) ((RS.mk (ab rst rst (0:Nat)).1 us pw hk hs hn hp port false pn pl hq q hf fg false (aw (ab rst rst (0:Nat)).1) (aj (aj (ab rst rst (0:Nat)).2.1 (ByteArray.mk #[47,47]).data.toList).1 (ByteArray.mk #[47]).data.toList).1).hs) ((RS.mk (ab rst rst (0:Nat)).1 us pw hk hs hn hp port false pn pl hq q hf fg false (aw (ab rst rst (0:Nat)).1) (aj (aj (ab rst rst (0:Nat)).2.1 (ByteArray.mk #[47,47]).data.toList).1 (ByteArray.mk #[47]).data.toList).1).hn) ((RS.mk (ab rst rst (0:Nat)).1 us pw hk hs hn hp port false pn pl hq q hf fg false (aw (ab rst rst (0:Nat)).1) (aj (aj (ab rst rst (0:Nat)).2.1 (ByteArray.mk #[47,47]).data.toList).1 (ByteArray.mk #[47]).data.toList).1).hp) ((RS.mk (ab rst rst (0:Nat)).1 us pw hk hs hn hp port false pn pl hq q hf fg false (aw (ab rst rst (0:Nat)).1) (aj (aj (ab rst rst (0:Nat)).2.1 (ByteArray.mk #[47,47]).data.toList).1 (ByteArray.mk #[47]).data.toList).1).port) ((RS.mk (ab rst rst (0:Nat)).1 us pw hk hs hn hp port false pn pl hq q hf fg false (aw (ab rst rst (0:Nat)).1) (aj (aj (ab rst rst (0:Nat)).2.1 (ByteArray.mk #[47,47]).data.toList).1 (ByteArray.mk #[47]).data.toList).1).opq) ((RS.mk (ab rst rst (0:Nat)).1 us pw hk hs hn hp port false pn pl hq q hf fg false (aw (ab rst rst (0:Nat)).1) (aj (aj (ab rst rst (0:Nat)).2.1 (ByteArray.mk #[47,47]).data.toList).1 (ByteArray.mk #[47]).data.toList).1).pn) ((RS.mk (ab rst rst (0:Nat)).1 us pw hk hs hn hp port false pn pl hq q hf fg false (aw (ab rst rst (0:Nat)).1) (aj (aj (ab rst rst (0:Nat)).2.1 (ByteArray.mk #[47,47]).data.toList).1 (ByteArray.mk #[47]).data.toList).1).pl) ((RS.mk (ab rst rst (0:Nat)).1 us pw hk hs hn hp port false pn pl hq q hf fg false (aw (ab rst rst (0:Nat)).1) (aj (aj (ab rst rst (0:Nat)).2.1 (ByteArray.mk #[47,47]).data.toList).1 (ByteArray.mk #[47]).data.toList).1).hq) ((RS.mk (ab rst rst (0:Nat)).1 us pw hk hs hn hp port false pn pl hq q hf fg false (aw (ab rst rst (0:Nat)).1) (aj (aj (ab rst rst (0:Nat)).2.1 (ByteArray.mk #[47,47]).data.toList).1 (ByteArray.mk #[47]).data.toList).1).q) ((RS.mk (ab rst rst (0:Nat)).1 us pw hk hs hn hp port false pn pl hq q hf fg false (aw (ab rst rst (0:Nat)).1) (aj (aj (ab rst rst (0:Nat)).2.1 (ByteArray.mk #[47,47]).data.toList).1 (ByteArray.mk #[47]).data.toList).1).hf) ((RS.mk (ab rst rst (0:Nat)).1 us pw hk hs hn hp port false pn pl hq q hf fg false (aw (ab rst rst (0:Nat)).1) (aj (aj (ab rst rst (0:Nat)).2.1 (ByteArray.mk #[47,47]).data.toList).1 (ByteArray.mk #[47]).data.toList).1).fg) ((RS.mk (ab rst rst (0:Nat)).1 us pw hk hs hn hp port false pn pl hq q hf fg false (aw (ab rst rst (0:Nat)).1) (aj (aj (ab rst rst (0:Nat)).2.1 (ByteArray.mk #[47,47]).data.toList).1 (ByteArray.mk #[47]).data.toList).1).bare) ((RS.mk (ab rst rst (0:Nat)).1 us pw hk hs hn hp port false pn pl hq q hf fg false (aw (ab rst rst (0:Nat)).1) (aj (aj (ab rst rst (0:Nat)).2.1 (ByteArray.mk #[47,47]).data.toList).1 (ByteArray.mk #[47]).data.toList).1).sp) ((RS.mk (ab rst rst (0:Nat)).1 us pw hk hs hn hp port false pn pl hq q hf fg false (aw (ab rst rst (0:Nat)).1) (aj (aj (ab rst rst (0:Nat)).2.1 (ByteArray.mk #[47,47]).data.toList).1 (ByteArray.mk #[47]).data.toList).1).rst))]∧
 ((RS.mk sc us pw hk hs hn hp port false pn pl hq q hf fg bare sp rst).ao=((RS.mk (ab rst rst (0:Nat)).1 us pw hk hs hn hp port false pn pl hq q hf fg false (aw (ab rst rst (0:Nat)).1) (aj (aj (ab rst rst (0:Nat)).2.1 (ByteArray.mk #[47,47]).data.toList).1 (ByteArray.mk #[47]).data.toList).1).path.tail,(0:Int))∧
 List.length (RS.mk (ab rst rst (0:Nat)).1 us pw hk hs hn hp port false pn pl hq q hf fg false (aw (ab rst rst (0:Nat)).1) (aj (aj (ab rst rst (0:Nat)).2.1 (ByteArray.mk #[47,47]).data.toList).1 (ByteArray.mk #[47]).data.toList).1).rst≤(300000:Nat)∧
 (RS.mk (ab rst rst (0:Nat)).1 us pw hk hs hn hp port false pn pl hq q hf fg false (aw (ab rst rst (0:Nat)).1) (aj (aj (ab rst rst (0:Nat)).2.1 (ByteArray.mk #[47,47]).data.toList).1 (ByteArray.mk #[47]).data.toList).1).pl.length≤(100000:Nat))∧
 IB k sc us pw hk hs hn hp port pn pl hq q hf fg bare sp rst)∧
 ((aj (aj (ab rst rst (0:Nat)).2.1 (ByteArray.mk #[47,47]).data.toList).1 (ByteArray.mk #[47]).data.toList).2=false→
 (List.length (aj (aj (ab rst rst (0:Nat)).2.1 (ByteArray.mk #[47,47]).data.toList).1 (ByteArray.mk #[47]).data.toList).1).le (300000:Nat)∧
 (aa (aj (aj (ab rst rst (0:Nat)).2.1 (ByteArray.mk #[47,47]).data.toList).1 (ByteArray.mk #[47]).data.toList).1 ↑(aE (aj (aj (ab rst rst (0:Nat)).2.1 (ByteArray.mk #[47,47]).data.toList).1 (ByteArray.mk #[47]).data.toList).1)).length.le (300000:Nat)∧
 (List.length (bH (aa (aj (aj (ab rst rst (0:Nat)).2.1 (ByteArray.mk #[47,47]).data.toList).1 (ByteArray.mk #[47]).data.toList).1 ↑(aE (aj (aj (ab rst rst (0:Nat)).2.1 (ByteArray.mk #[47,47]).data.toList).1 (ByteArray.mk #[47]).data.toList).1)))).le (300000:Nat)∧
 k (PV.int .i64 (0:Int)) [bS (PV.raw (Go.Value.pointer none)) 0 ((ab rst rst (0:Nat)).1) us pw hk hs hn hp port true false ([nz (ae (aj (aj (ab rst rst (0:Nat)).2.1 (ByteArray.mk #[47,47]).data.toList).1 (ByteArray.mk #[47]).data.toList).1 ↑(aE (aj (aj (ab rst rst (0:Nat)).2.1 (ByteArray.mk #[47,47]).data.toList).1 (ByteArray.mk #[47]).data.toList).1)) (aa (aj (aj (ab rst rst (0:Nat)).2.1 (ByteArray.mk #[47,47]).data.toList).1 (ByteArray.mk #[47]).data.toList).1 ↑(aE (aj (aj (ab rst rst (0:Nat)).2.1 (ByteArray.mk #[47,47]).data.toList).1 (ByteArray.mk #[47]).data.toList).1))]) (dU (aa (aj (aj (ab rst rst (0:Nat)).2.1 (ByteArray.mk #[47,47]).data.toList).1 (ByteArray.mk #[47]).data.toList).1 ↑(aE (aj (aj (ab rst rst (0:Nat)).2.1 (ByteArray.mk #[47,47]).data.toList).1 (ByteArray.mk #[47]).data.toList).1)) hq) (dV (aw (ab rst rst (0:Nat)).1) (aa (aj (aj (ab rst rst (0:Nat)).2.1 (ByteArray.mk #[47,47]).data.toList).1 (ByteArray.mk #[47]).data.toList).1 ↑(aE (aj (aj (ab rst rst (0:Nat)).2.1 (ByteArray.mk #[47,47]).data.toList).1 (ByteArray.mk #[47]).data.toList).1)) q) (dW (bH (aa (aj (aj (ab rst rst (0:Nat)).2.1 (ByteArray.mk #[47,47]).data.toList).1 (ByteArray.mk #[47]).data.toList).1 ↑(aE (aj (aj (ab rst rst (0:Nat)).2.1 (ByteArray.mk #[47,47]).data.toList).1 (ByteArray.mk #[47]).data.toList).1))) hf) (dX (bH (aa (aj (aj (ab rst rst (0:Nat)).2.1 (ByteArray.mk #[47,47]).data.toList).1 (ByteArray.mk #[47]).data.toList).1 ↑(aE (aj (aj (ab rst rst (0:Nat)).2.1 (ByteArray.mk #[47,47]).data.toList).1 (ByteArray.mk #[47]).data.toList).1))) fg) false (aw (ab rst rst (0:Nat)).1) (dY (bH (aa (aj (aj (ab rst rst (0:Nat)).2.1 (ByteArray.mk #[47,47]).data.toList).1 (ByteArray.mk #[47]).data.toList).1 ↑(aE (aj (aj (ab rst rst (0:Nat)).2.1 (ByteArray.mk #[47,47]).data.toList).1 (ByteArray.mk #[47]).data.toList).1))))]))))))∧
 (false=!false→
 ((!false)=false→
 false=true→
 True)∧
 (true=true→
 VS.mk [] [(0,PV.ptr (0:Nat) (0:Nat)),(2,PV.int .i64 (0:Int)),(3,PV.int .i64 (0:Int)),(6,PV.bool !decide ((0:Int)=(0:Int))),(10,PV.bool false),(16,PV.bool (decide ((ab rst rst (0:Nat)).1=(ByteArray.mk #[102,105,108,101]).data.toList))),(26,PV.undef),(28,PV.bool true),(51,PV.undef),(58,PV.undef),(61,PV.undef),(71,PV.undef),(77,PV.undef),(81,PV.undef),(87,PV.undef),(97,PV.undef)] [((0:Nat),bS (PV.raw (Go.Value.pointer none)) 1 ((ab rst rst (0:Nat)).1) us pw hk hs hn hp port false pn pl hq q hf fg false (aw (ab rst rst (0:Nat)).1) ((ab rst rst (0:Nat)).2.1))]=VS.mk [] [] []∧
 False∧
 ∀(x:RS),False→
 False)∧
 (true=false→
 (aw (ab rst rst (0:Nat)).1=true→
 (List.length (ab rst rst (0:Nat)).2.1).le (300000:Nat)∧
 VS.mk [] [(0,PV.ptr (0:Nat) (0:Nat)),(2,PV.int .i64 (0:Int)),(3,PV.int .i64 (0:Int)),(6,PV.bool !decide ((0:Int)=(0:Int))),(10,PV.bool false),(16,PV.bool (decide ((ab rst rst (0:Nat)).1=(ByteArray.mk #[102,105,108,101]).data.toList))),(26,PV.undef),(28,PV.bool true),(51,PV.bool (aw (ab rst rst (0:Nat)).1)),(58,PV.undef),(61,PV.undef),(71,PV.undef),(77,PV.undef),(81,PV.undef),(87,PV.undef),(97,PV.undef)] [((0:Nat),bS (PV.raw (Go.Value.pointer none)) 1 ((ab rst rst (0:Nat)).1) us pw hk hs hn hp port false pn pl hq q hf fg false (aw (ab rst rst (0:Nat)).1) (aB (List.length (ab rst rst (0:Nat)).2.1) (aw (ab rst rst (0:Nat)).1) (0:Int) (ab rst rst (0:Nat)).2.1))]=VS.mk [] [(0,PV.ptr (0:Nat) (0:Nat)),(2,PV.int .i64 (0:Int)),(3,PV.int .i64 (0:Int)),(6,PV.bool !decide ((0:Int)=(0:Int))),(10,PV.bool false),(16,PV.bool (decide ((ab rst rst (0:Nat)).1=(ByteArray.mk #[102,105,108,101]).data.toList))),(26,PV.undef),(28,PV.bool true),(51,PV.bool (aw (ab rst rst (0:Nat)).1)),(58,PV.undef),(61,PV.undef),(71,PV.undef),(77,PV.undef),(81,PV.undef),(87,PV.undef),(97,PV.undef)] [((0:Nat),bS (PV.raw (Go.Value.pointer none)) 1 ((RS.mk (ab rst rst (0:Nat)).1 us pw hk hs hn hp port false pn pl hq q hf fg false (aw (ab rst rst (0:Nat)).1) (aB (List.length (ab rst rst (0:Nat)).2.1) (aw (ab rst rst (0:Nat)).1) (0:Int) (ab rst rst (0:Nat)).2.1)).sc) ((RS.mk (ab rst rst (0:Nat)).1 us pw hk hs hn hp port false pn pl hq q hf fg false (aw (ab rst rst (0:Nat)).1) (aB (List.length (ab rst rst (0:Nat)).2.1) (aw (ab rst rst (0:Nat)).1) (0:Int) (ab rst rst (0:Nat)).2.1)).us) ((RS.mk (ab rst rst (0:Nat)).1 us pw hk hs hn hp port false pn pl hq q hf fg false (aw (ab rst rst (0:Nat)).1) (aB (List.length (ab rst rst (0:Nat)).2.1) (aw (ab rst rst (0:Nat)).1) (0:Int) (ab rst rst (0:Nat)).2.1)).pw) ((RS.mk (ab rst rst (0:Nat)).1 us pw hk hs hn hp port false pn pl hq q hf fg false (aw (ab rst rst (0:Nat)).1) (aB (List.length (ab rst rst (0:Nat)).2.1) (aw (ab rst rst (0:Nat)).1) (0:Int) (ab rst rst (0:Nat)).2.1)).hk) ((RS.mk (ab rst rst (0:Nat)).1 us pw hk hs hn hp port false pn pl hq q hf fg false (aw (ab rst rst (0:Nat)).1) (aB (List.length (ab rst rst (0:Nat)).2.1) (aw (ab rst rst (0:Nat)).1) (0:Int) (ab rst rst (0:Nat)).2.1)).hs) ((RS.mk (ab rst rst (0:Nat)).1 us pw hk hs hn hp port false pn pl hq q hf fg false (aw (ab rst rst (0:Nat)).1) (aB (List.length (ab rst rst (0:Nat)).2.1) (aw (ab rst rst (0:Nat)).1) (0:Int) (ab rst rst (0:Nat)).2.1)).hn) ((RS.mk (ab rst rst (0:Nat)).1 us pw hk hs hn hp port false pn pl hq q hf fg false (aw (ab rst rst (0:Nat)).1) (aB (List.length (ab rst rst (0:Nat)).2.1) (aw (ab rst rst (0:Nat)).1) (0:Int) (ab rst rst (0:Nat)).2.1)).hp) ((RS.mk (ab rst rst (0:Nat)).1 us pw hk hs hn hp port false pn pl hq q hf fg false (aw (ab rst rst (0:Nat)).1) (aB (List.length (ab rst rst (0:Nat)).2.1) (aw (ab rst rst (0:Nat)).1) (0:Int) (ab rst rst (0:Nat)).2.1)).port) ((RS.mk (ab rst rst (0:Nat)).1 us pw hk hs hn hp port false pn pl hq q hf fg false (aw (ab rst rst (0:Nat)).1) (aB (List.length (ab rst rst (0:Nat)).2.1) (aw (ab rst rst (0:Nat)).1) (0:Int) (ab rst rst (0:Nat)).2.1)).opq) ((RS.mk (ab rst rst (0:Nat)).1 us pw hk hs hn hp port false pn pl hq q hf fg false (aw (ab rst rst (0:Nat)).1) (aB (List.length (ab rst rst (0:Nat)).2.1) (aw (ab rst rst (0:Nat)).1) (0:Int) (ab rst rst (0:Nat)).2.1)).pn) ((RS.mk (ab rst rst (0:Nat)).1 us pw hk hs hn hp port false pn pl hq q hf fg false (aw (ab rst rst (0:Nat)).1) (aB (List.length (ab rst rst (0:Nat)).2.1) (aw (ab rst rst (0:Nat)).1) (0:Int) (ab rst rst (0:Nat)).2.1)).pl) ((RS.mk (ab rst rst (0:Nat)).1 us pw hk hs hn hp port false pn pl hq q hf fg false (aw (ab rst rst (0:Nat)).1) (aB (List.length (ab rst rst (0:Nat)).2.1) (aw (ab rst rst (0:Nat)).1) (0:Int) (ab rst rst (0:Nat)).2.1)).hq) ((RS.mk (ab rst rst (0:Nat)).1 us pw hk hs hn hp port false pn pl hq q hf fg false (aw (ab rst rst (0:Nat)).1) (aB (List.length (ab rst rst (0:Nat)).2.1) (aw (ab rst rst (0:Nat)).1) (0:Int) (ab rst rst (0:Nat)).2.1)).q) ((RS.mk (ab rst rst (0:Nat)).1 us pw hk hs hn hp port false pn pl hq q hf fg false (aw (ab rst rst (0:Nat)).1) (aB (List.length (ab rst rst (0:Nat)).2.1) (aw (ab rst rst (0:Nat)).1) (0:Int) (ab rst rst (0:Nat)).2.1)).hf) ((RS.mk (ab rst rst (0:Nat)).1 us pw hk hs hn hp port false pn pl hq q hf fg false (aw (ab rst rst (0:Nat)).1) (aB (List.length (ab rst rst (0:Nat)).2.1) (aw (ab rst rst (0:Nat)).1) (0:Int) (ab rst rst (0:Nat)).2.1)).fg) ((RS.mk (ab rst rst (0:Nat)).1 us pw hk hs hn hp port false pn pl hq q hf fg false (aw (ab rst rst (0:Nat)).1) (aB (List.length (ab rst rst (0:Nat)).2.1) (aw (ab rst rst (0:Nat)).1) (0:Int) (ab rst rst (0:Nat)).2.1)).bare) ((RS.mk (ab rst rst (0:Nat)).1 us pw hk hs hn hp port false pn pl hq q hf fg false (aw (ab rst rst (0:Nat)).1) (aB (List.length (ab rst rst (0:Nat)).2.1) (aw (ab rst rst (0:Nat)).1) (0:Int) (ab rst rst (0:Nat)).2.1)).sp) ((RS.mk (ab rst rst (0:Nat)).1 us pw hk hs hn hp port false pn pl hq q hf fg false (aw (ab rst rst (0:Nat)).1) (aB (List.length (ab rst rst (0:Nat)).2.1) (aw (ab rst rst (0:Nat)).1) (0:Int) (ab rst rst (0:Nat)).2.1)).rst))]∧
 ((RS.mk sc us pw hk hs hn hp port false pn pl hq q hf fg bare sp rst).ao=(RS.mk (ab rst rst (0:Nat)).1 us pw hk hs hn hp port false pn pl hq q hf fg false (aw (ab rst rst (0:Nat)).1) (aB (List.length (ab rst rst (0:Nat)).2.1) (aw (ab rst rst (0:Nat)).1) (0:Int) (ab rst rst (0:Nat)).2.1)).b9∧
 List.length (RS.mk (ab rst rst (0:Nat)).1 us pw hk hs hn hp port false pn pl hq q hf fg false (aw (ab rst rst (0:Nat)).1) (aB (List.length (ab rst rst (0:Nat)).2.1) (aw (ab rst rst (0:Nat)).1) (0:Int) (ab rst rst (0:Nat)).2.1)).rst≤(300000:Nat)∧
 (RS.mk (ab rst rst (0:Nat)).1 us pw hk hs hn hp port false pn pl hq q hf fg false (aw (ab rst rst (0:Nat)).1) (aB (List.length (ab rst rst (0:Nat)).2.1) (aw (ab rst rst (0:Nat)).1) (0:Int) (ab rst rst (0:Nat)).2.1)).pl.length≤(100000:Nat))∧
 Aj k sc us pw hk hs hn hp port pn pl hq q hf fg bare sp rst)∧
 (aw (ab rst rst (0:Nat)).1=false→
 True∧
 ((aj (ab rst rst (0:Nat)).2.1 (ByteArray.mk #[47,47]).data.toList).2=true→
 VS.mk [] [(0,PV.ptr (0:Nat) (0:Nat)),(2,PV.int .i64 (0:Int)),(3,PV.int .i64 (0:Int)),(6,PV.bool !decide ((0:Int)=(0:Int))),(10,PV.bool false),(16,PV.bool (decide ((ab rst rst (0:Nat)).1=(ByteArray.mk #[102,105,108,101]).data.toList))),(26,PV.undef),(28,PV.bool true),(51,PV.bool (aw (ab rst rst (0:Nat)).1)),(58,PV.bool (aj (ab rst rst (0:Nat)).2.1 (ByteArray.mk #[47,47]).data.toList).2),(61,PV.undef),(71,PV.undef),(77,PV.undef),(81,PV.undef),(87,PV.undef),(97,PV.undef)] [((0:Nat),bS (PV.raw (Go.Value.pointer none)) 1 ((ab rst rst (0:Nat)).1) us pw hk hs hn hp port false pn pl hq q hf fg false (aw (ab rst rst (0:Nat)).1) ((aj (ab rst rst (0:Nat)).2.1 (ByteArray.mk #[47,47]).data.toList).1))]=VS.mk [] [(0,PV.ptr (0:Nat) (0:Nat)),(2,PV.int .i64 (0:Int)),(3,PV.int .i64 (0:Int)),(6,PV.bool !decide ((0:Int)=(0:Int))),(10,PV.bool false),(16,PV.bool (decide ((ab rst rst (0:Nat)).1=(ByteArray.mk #[102,105,108,101]).data.toList))),(26,PV.undef),(28,PV.bool true),(51,PV.bool (aw (ab rst rst (0:Nat)).1)),(58,PV.bool (aj (ab rst rst (0:Nat)).2.1 (ByteArray.mk #[47,47]).data.toList).2),(61,PV.undef),(71,PV.undef),(77,PV.undef),(81,PV.undef),(87,PV.undef),(97,PV.undef)] [((0:Nat),bS (PV.raw (Go.Value.pointer none)) 1 ((RS.mk (ab rst rst (0:Nat)).1 us pw hk hs hn hp port false pn pl hq q hf fg false (aw (ab rst rst (0:Nat)).1) (aj (ab rst rst (0:Nat)).2.1 (ByteArray.mk #[47,47]).data.toList).1).sc) ((RS.mk (ab rst rst (0:Nat)).1 us pw hk hs hn hp port false pn pl hq q hf fg false (aw (ab rst rst (0:Nat)).1) (aj (ab rst rst (0:Nat)).2.1 (ByteArray.mk #[47,47]).data.toList).1).us) ((RS.mk (ab rst rst (0:Nat)).1 us pw hk hs hn hp port false pn pl hq q hf fg false (aw (ab rst rst (0:Nat)).1) (aj (ab rst rst (0:Nat)).2.1 (ByteArray.mk #[47,47]).data.toList).1).pw) ((RS.mk (ab rst rst (0:Nat)).1 us pw hk hs hn hp port false pn pl hq q hf fg false (aw (ab rst rst (0:Nat)).1) (aj (ab rst rst (0:Nat)).2.1 (ByteArray.mk #[47,47]).data.toList).1).hk) ((RS.mk (ab rst rst (0:Nat)).1 us pw hk hs hn hp port false pn pl hq q hf fg false (aw (ab rst rst (0:Nat)).1) (aj (ab rst rst (0:Nat)).2.1 (ByteArray.mk #[47,47]).data.toList).1).hs) ((RS.mk (ab rst rst (0:Nat)).1 us pw hk hs hn hp port false pn pl hq q hf fg false (aw (ab rst rst (0:Nat)).1) (aj (ab rst rst (0:Nat)).2.1 (ByteArray.mk #[47,47]).data.toList).1).hn) ((RS.mk (ab rst rst (0:Nat)).1 us pw hk hs hn hp port false pn pl hq q hf fg false (aw (ab rst rst (0:Nat)).1) (aj (ab rst rst (0:Nat)).2.1 (ByteArray.mk #[47,47]).data.toList).1).hp) ((RS.mk (ab rst rst (0:Nat)).1 us pw hk hs hn hp port false pn pl hq q hf fg false (aw (ab rst rst (0:Nat)).1) (aj (ab rst rst (0:Nat)).2.1 (ByteArray.mk #[47,47]).data.toList).1).port) ((RS.mk (ab rst rst (0:Nat)).1 us pw hk hs hn hp port false pn pl hq q hf fg false (aw (ab rst rst (0:Nat)).1) (aj (ab rst rst (0:Nat)).2.1 (ByteArray.mk #[47,47]).data.toList).1).opq) ((RS.mk (ab rst rst (0:Nat)).1 us pw hk hs hn hp port false pn pl hq q hf fg false (aw (ab rst rst (0:Nat)).1) (aj (ab rst rst (0:Nat)).2.1 (ByteArray.mk #[47,47]).data.toList).1).pn) ((RS.mk (ab rst rst (0:Nat)).1 us pw hk hs hn hp port false pn pl hq q hf fg false (aw (ab rst rst (0:Nat)).1) (aj (ab rst rst (0:Nat)).2.1 (ByteArray.mk #[47,47]).data.toList).1).pl) ((RS.mk (ab rst rst (0:Nat)).1 us pw hk hs hn hp port false pn pl hq q hf fg false (aw (ab rst rst (0:Nat)).1) (aj (ab rst rst (0:Nat)).2.1 (ByteArray.mk #[47,47]).data.toList).1).hq) ((RS.mk (ab rst rst (0:Nat)).1 us pw hk hs hn hp port false pn pl hq q hf fg false (aw (ab rst rst (0:Nat)).1) (aj (ab rst rst (0:Nat)).2.1 (ByteArray.mk #[47,47]).data.toList).1).q) ((RS.mk (ab rst rst (0:Nat)).1 us pw hk hs hn hp port false pn pl hq q hf fg false (aw (ab rst rst (0:Nat)).1) (aj (ab rst rst (0:Nat)).2.1 (ByteArray.mk #[47,47]).data.toList).1).hf) ((RS.mk (ab rst rst (0:Nat)).1 us pw hk hs hn hp port false pn pl hq q hf fg false (aw (ab rst rst (0:Nat)).1) (aj (ab rst rst (0:Nat)).2.1 (ByteArray.mk #[47,47]).data.toList).1).fg) ((RS.mk (ab rst rst (0:Nat)).1 us pw hk hs hn hp port false pn pl hq q hf fg false (aw (ab rst rst (0:Nat)).1) (aj (ab rst rst (0:Nat)).2.1 (ByteArray.mk #[47,47]).data.toList).1).bare) ((RS.mk (ab rst rst (0:Nat)).1 us pw hk hs hn hp port false pn pl hq q hf fg false (aw (ab rst rst (0:Nat)).1) (aj (ab rst rst (0:Nat)).2.1 (ByteArray.mk #[47,47]).data.toList).1).sp) ((RS.mk (ab rst rst (0:Nat)).1 us pw hk hs hn hp port false pn pl hq q hf fg false (aw (ab rst rst (0:Nat)).1) (aj (ab rst rst (0:Nat)).2.1 (ByteArray.mk #[47,47]).data.toList).1).rst))]∧
 ((RS.mk sc us pw hk hs hn hp port false pn pl hq q hf fg bare sp rst).ao=(RS.mk (ab rst rst (0:Nat)).1 us pw hk hs hn hp port false pn pl hq q hf fg false (aw (ab rst rst (0:Nat)).1) (aj (ab rst rst (0:Nat)).2.1 (ByteArray.mk #[47,47]).data.toList).1).b9∧
 List.length (RS.mk (ab rst rst (0:Nat)).1 us pw hk hs hn hp port false pn pl hq q hf fg false (aw (ab rst rst (0:Nat)).1) (aj (ab rst rst (0:Nat)).2.1 (ByteArray.mk #[47,47]).data.toList).1).rst≤(300000:Nat)∧
 (RS.mk (ab rst rst (0:Nat)).1 us pw hk hs hn hp port false pn pl hq q hf fg false (aw (ab rst rst (0:Nat)).1) (aj (ab rst rst (0:Nat)).2.1 (ByteArray.mk #[47,47]).data.toList).1).pl.length≤(100000:Nat))∧
 Aj k sc us pw hk hs hn hp port pn pl hq q hf fg bare sp rst)∧
 ((aj (ab rst rst (0:Nat)).2.1 (ByteArray.mk #[47,47]).data.toList).2=false→
 True∧
 ((aj (aj (ab rst rst (0:Nat)).2.1 (ByteArray.mk #[47,47]).data.toList).1 (ByteArray.mk #[47]).data.toList).2=true→
 VS.mk [] [(0,PV.ptr (0:Nat) (0:Nat)),(2,PV.int .i64 (0:Int)),(3,PV.int .i64 (0:Int)),(6,PV.bool !decide ((0:Int)=(0:Int))),(10,PV.bool false),(16,PV.bool (decide ((ab rst rst (0:Nat)).1=(ByteArray.mk #[102,105,108,101]).data.toList))),(26,PV.undef),(28,PV.bool true),(51,PV.bool (aw (ab rst rst (0:Nat)).1)),(58,PV.bool (aj (ab rst rst (0:Nat)).2.1 (ByteArray.mk #[47,47]).data.toList).2),(61,PV.bool (aj (aj (ab rst rst (0:Nat)).2.1 (ByteArray.mk #[47,47]).data.toList).1 (ByteArray.mk #[47]).data.toList).2),(71,PV.undef),(77,PV.undef),(81,PV.undef),(87,PV.undef),(97,PV.undef)] [((0:Nat),bS (PV.raw (Go.Value.pointer none)) 1 ((ab rst rst (0:Nat)).1) us pw hk hs hn hp port false pn pl hq q hf fg false (aw (ab rst rst (0:Nat)).1) ((aj (aj (ab rst rst (0:Nat)).2.1 (ByteArray.mk #[47,47]).data.toList).1 (ByteArray.mk #[47]).data.toList).1))]=VS.mk [] [(0,PV.ptr (0:Nat) (0:Nat)),(2,PV.int .i64 (0:Int)),(3,PV.int .i64 (0:Int)),(6,PV.bool !decide ((0:Int)=(0:Int))),(10,PV.bool false),(16,PV.bool (decide ((ab rst rst (0:Nat)).1=(ByteArray.mk #[102,105,108,101]).data.toList))),(26,PV.undef),(28,PV.bool true),(51,PV.bool (aw (ab rst rst (0:Nat)).1)),(58,PV.bool (aj (ab rst rst (0:Nat)).2.1 (ByteArray.mk #[47,47]).data.toList).2),(61,PV.bool (aj (aj (ab rst rst (0:Nat)).2.1 (ByteArray.mk #[47,47]).data.toList).1 (ByteArray.mk #[47]).data.toList).2),(71,PV.undef),(77,PV.undef),(81,PV.undef),(87,PV.undef),(97,PV.undef)] [((0:Nat),bS (PV.raw (Go.Value.pointer none)) 1 ((RS.mk (ab rst rst (0:Nat)).1 us pw hk hs hn hp port false pn pl hq q hf fg false (aw (ab rst rst (0:Nat)).1) (aj (aj (ab rst rst (0:Nat)).2.1 (ByteArray.mk #[47,47]).data.toList).1 (ByteArray.mk #[47]).data.toList).1).sc) ((RS.mk (ab rst rst (0:Nat)).1 us pw hk hs hn hp port false pn pl hq q hf fg false (aw (ab rst rst (0:Nat)).1) (aj (aj (ab rst rst (0:Nat)).2.1 (ByteArray.mk #[47,47]).data.toList).1 (ByteArray.mk #[47]).data.toList).1).us) ((RS.mk (ab rst rst (0:Nat)).1 us pw hk hs hn hp port false pn pl hq q hf fg false (aw (ab rst rst (0:Nat)).1) (aj (aj (ab rst rst (0:Nat)).2.1 (ByteArray.mk #[47,47]).data.toList).1 (ByteArray.mk #[47]).data.toList).1).pw) ((RS.mk (ab rst rst (0:Nat)).1 us pw hk hs hn hp port false pn pl hq q hf fg false (aw (ab rst rst (0:Nat)).1) (aj (aj (ab rst rst (0:Nat)).2.1 (ByteArray.mk #[47,47]).data.toList).1 (ByteArray.mk #[47]).data.toList).1).hk) ((RS.mk (ab rst rst (0:Nat)).1 us pw hk hs hn hp port false pn pl hq q hf fg false (aw (ab rst rst (0:Nat)).1) (aj (aj (ab rst rst (0:Nat)).2.1 (ByteArray.mk #[47,47]).data.toList).1 (ByteArray.mk #[47]).data.toList).1).hs) ((RS.mk (ab rst rst (0:Nat)).1 us pw hk hs hn hp port false pn pl hq q hf fg false (aw (ab rst rst (0:Nat)).1) (aj (aj (ab rst rst (0:Nat)).2.1 (ByteArray.mk #[47,47]).data.toList).1 (ByteArray.mk #[47]).data.toList).1).hn) ((RS.mk (ab rst rst (0:Nat)).1 us pw hk hs hn hp port false pn pl hq q hf fg false (aw (ab rst rst (0:Nat)).1) (aj (aj (ab rst rst (0:Nat)).2.1 (ByteArray.mk #[47,47]).data.toList).1 (ByteArray.mk #[47]).data.toList).1).hp) ((RS.mk (ab rst rst (0:Nat)).1 us pw hk hs hn hp port false pn pl hq q hf fg false (aw (ab rst rst (0:Nat)).1) (aj (aj (ab rst rst (0:Nat)).2.1 (ByteArray.mk #[47,47]).data.toList).1 (ByteArray.mk #[47]).data.toList).1).port) ((RS.mk (ab rst rst (0:Nat)).1 us pw hk hs hn hp port false pn pl hq q hf fg false (aw (ab rst rst (0:Nat)).1) (aj (aj (ab rst rst (0:Nat)).2.1 (ByteArray.mk #[47,47]).data.toList).1 (ByteArray.mk #[47]).data.toList).1).opq) ((RS.mk (ab rst rst (0:Nat)).1 us pw hk hs hn hp port false pn pl hq q hf fg false (aw (ab rst rst (0:Nat)).1) (aj (aj (ab rst rst (0:Nat)).2.1 (ByteArray.mk #[47,47]).data.toList).1 (ByteArray.mk #[47]).data.toList).1).pn) ((RS.mk (ab rst rst (0:Nat)).1 us pw hk hs hn hp port false pn pl hq q hf fg false (aw (ab rst rst (0:Nat)).1) (aj (aj (ab rst rst (0:Nat)).2.1 (ByteArray.mk #[47,47]).data.toList).1 (ByteArray.mk #[47]).data.toList).1).pl) ((RS.mk (ab rst rst (0:Nat)).1 us pw hk hs hn hp port false pn pl hq q hf fg false (aw (ab rst rst (0:Nat)).1) (aj (aj (ab rst rst (0:Nat)).2.1 (ByteArray.mk #[47,47]).data.toList).1 (ByteArray.mk #[47]).data.toList).1).hq) ((RS.mk (ab rst rst (0:Nat)).1 us pw hk hs hn hp port false pn pl hq q hf fg false (aw (ab rst rst (0:Nat)).1) (aj (aj (ab rst rst (0:Nat)).2.1 (ByteArray.mk #[47,47]).data.toList).1 (ByteArray.mk #[47]).data.toList).1).q) ((RS.mk (ab rst rst (0:Nat)).1 us pw hk hs hn hp port false pn pl hq q hf fg false (aw (ab rst rst (0:Nat)).1) (aj (aj (ab rst rst (0:Nat)).2.1 (ByteArray.mk #[47,47]).data.toList).1 (ByteArray.mk #[47]).data.toList).1).hf) ((RS.mk (ab rst rst (0:Nat)).1 us pw hk hs hn hp port false pn pl hq q hf fg false (aw (ab rst rst (0:Nat)).1) (aj (aj (ab rst rst (0:Nat)).2.1 (ByteArray.mk #[47,47]).data.toList).1 (ByteArray.mk #[47]).data.toList).1).fg) ((RS.mk (ab rst rst (0:Nat)).1 us pw hk hs hn hp port false pn pl hq q hf fg false (aw (ab rst rst (0:Nat)).1) (aj (aj (ab rst rst (0:Nat)).2.1 (ByteArray.mk #[47,47]).data.toList).1 (ByteArray.mk #[47]).data.toList).1).bare) ((RS.mk (ab rst rst (0:Nat)).1 us pw hk hs hn hp port false pn pl hq q hf fg false (aw (ab rst rst (0:Nat)).1) (aj (aj (ab rst rst (0:Nat)).2.1 (ByteArray.mk #[47,47]).data.toList).1 (ByteArray.mk #[47]).data.toList).1).sp) ((RS.mk (ab rst rst (0:Nat)).1 us pw hk hs hn hp port false pn pl hq q hf fg false (aw (ab rst rst (0:Nat)).1) (aj (aj (ab rst rst (0:Nat)).2.1 (ByteArray.mk #[47,47]).data.toList).1 (ByteArray.mk #[47]).data.toList).1).rst))]∧
 ((RS.mk sc us pw hk hs hn hp port false pn pl hq q hf fg bare sp rst).ao=((RS.mk (ab rst rst (0:Nat)).1 us pw hk hs hn hp port false pn pl hq q hf fg false (aw (ab rst rst (0:Nat)).1) (aj (aj (ab rst rst (0:Nat)).2.1 (ByteArray.mk #[47,47]).data.toList).1 (ByteArray.mk #[47]).data.toList).1).path.tail,(0:Int))∧
 List.length (RS.mk (ab rst rst (0:Nat)).1 us pw hk hs hn hp port false pn pl hq q hf fg false (aw (ab rst rst (0:Nat)).1) (aj (aj (ab rst rst (0:Nat)).2.1 (ByteArray.mk #[47,47]).data.toList).1 (ByteArray.mk #[47]).data.toList).1).rst≤(300000:Nat)∧
 (RS.mk (ab rst rst (0:Nat)).1 us pw hk hs hn hp port false pn pl hq q hf fg false (aw (ab rst rst (0:Nat)).1) (aj (aj (ab rst rst (0:Nat)).2.1 (ByteArray.mk #[47,47]).data.toList).1 (ByteArray.mk #[47]).data.toList).1).pl.length≤(100000:Nat))∧
 IB k sc us pw hk hs hn hp port pn pl hq q hf fg bare sp rst)∧
 ((aj (aj (ab rst rst (0:Nat)).2.1 (ByteArray.mk #[47,47]).data.toList).1 (ByteArray.mk #[47]).data.toList).2=false→
 (List.length (aj (aj (ab rst rst (0:Nat)).2.1 (ByteArray.mk #[47,47]).data.toList).1 (ByteArray.mk #[47]).data.toList).1).le (300000:Nat)∧
 (aa (aj (aj (ab rst rst (0:Nat)).2.1 (ByteArray.mk #[47,47]).data.toList).1 (ByteArray.mk #[47]).data.toList).1 ↑(aE (aj (aj (ab rst rst (0:Nat)).2.1 (ByteArray.mk #[47,47]).data.toList).1 (ByteArray.mk #[47]).data.toList).1)).length.le (300000:Nat)∧
 (List.length (bH (aa (aj (aj (ab rst rst (0:Nat)).2.1 (ByteArray.mk #[47,47]).data.toList).1 (ByteArray.mk #[47]).data.toList).1 ↑(aE (aj (aj (ab rst rst (0:Nat)).2.1 (ByteArray.mk #[47,47]).data.toList).1 (ByteArray.mk #[47]).data.toList).1)))).le (300000:Nat)∧
 k (PV.int .i64 (0:Int)) [bS (PV.raw (Go.Value.pointer none)) 0 ((ab rst rst (0:Nat)).1) us pw hk hs hn hp port true false ([nz (ae (aj (aj (ab rst rst (0:Nat)).2.1 (ByteArray.mk #[47,47]).data.toList).1 (ByteArray.mk #[47]).data.toList).1 ↑(aE (aj (aj (ab rst rst (0:Nat)).2.1 (ByteArray.mk #[47,47]).data.toList).1 (ByteArray.mk #[47]).data.toList).1)) (aa (aj (aj (ab rst rst (0:Nat)).2.1 (ByteArray.mk #[47,47]).data.toList).1 (ByteArray.mk #[47]).data.toList).1 ↑(aE (aj (aj (ab rst rst (0:Nat)).2.1 (ByteArray.mk #[47,47]).data.toList).1 (ByteArray.mk #[47]).data.toList).1))]) (dU (aa (aj (aj (ab rst rst (0:Nat)).2.1 (ByteArray.mk #[47,47]).data.toList).1 (ByteArray.mk #[47]).data.toList).1 ↑(aE (aj (aj (ab rst rst (0:Nat)).2.1 (ByteArray.mk #[47,47]).data.toList).1 (ByteArray.mk #[47]).data.toList).1)) hq) (dV (aw (ab rst rst (0:Nat)).1) (aa (aj (aj (ab rst rst (0:Nat)).2.1 (ByteArray.mk #[47,47]).data.toList).1 (ByteArray.mk #[47]).data.toList).1 ↑(aE (aj (aj (ab rst rst (0:Nat)).2.1 (ByteArray.mk #[47,47]).data.toList).1 (ByteArray.mk #[47]).data.toList).1)) q) (dW (bH (aa (aj (aj (ab rst rst (0:Nat)).2.1 (ByteArray.mk #[47,47]).data.toList).1 (ByteArray.mk #[47]).data.toList).1 ↑(aE (aj (aj (ab rst rst (0:Nat)).2.1 (ByteArray.mk #[47,47]).data.toList).1 (ByteArray.mk #[47]).data.toList).1))) hf) (dX (bH (aa (aj (aj (ab rst rst (0:Nat)).2.1 (ByteArray.mk #[47,47]).data.toList).1 (ByteArray.mk #[47]).data.toList).1 ↑(aE (aj (aj (ab rst rst (0:Nat)).2.1 (ByteArray.mk #[47,47]).data.toList).1 (ByteArray.mk #[47]).data.toList).1))) fg) false (aw (ab rst rst (0:Nat)).1) (dY (bH (aa (aj (aj (ab rst rst (0:Nat)).2.1 (ByteArray.mk #[47,47]).data.toList).1 (ByteArray.mk #[47]).data.toList).1 ↑(aE (aj (aj (ab rst rst (0:Nat)).2.1 (ByteArray.mk #[47,47]).data.toList).1 (ByteArray.mk #[47]).data.toList).1))))]))))))))):=by kernel_rfl
attribute [local irreducible] Go.Vc.cD Go.Vc.bL
theorem xY(sc us pw:Bs)(hk:Int)(hs:Bs)(hn:Int)(hp:List Int)(port:Int)(pn:Bool)(pl:List Bs)(hq:Bool)(q:Bs)(hf:Bool)(fg:Bs)(bare sp:Bool)(rst:Bs):bm Tryz.prog ay 47 [.ptr 0 0] [aC 1 (.raw (.pointer none)) sc us pw hk hs hn hp port false pn pl hq q hf fg bare sp rst] (rst.length≤300000∧pl.length≤100000∧(ab rst rst 0).2.2=true) (.int .i64 (RS.mk sc us pw hk hs hn hp port false pn pl hq q hf fg bare sp rst).ao.2) [aC 0 (.raw (.pointer none)) ((RS.mk sc us pw hk hs hn hp port false pn pl hq q hf fg bare sp rst).ao.1.sc) ((RS.mk sc us pw hk hs hn hp port false pn pl hq q hf fg bare sp rst).ao.1.us) ((RS.mk sc us pw hk hs hn hp port false pn pl hq q hf fg bare sp rst).ao.1.pw) ((RS.mk sc us pw hk hs hn hp port false pn pl hq q hf fg bare sp rst).ao.1.hk) ((RS.mk sc us pw hk hs hn hp port false pn pl hq q hf fg bare sp rst).ao.1.hs) ((RS.mk sc us pw hk hs hn hp port false pn pl hq q hf fg bare sp rst).ao.1.hn) ((RS.mk sc us pw hk hs hn hp port false pn pl hq q hf fg bare sp rst).ao.1.hp) ((RS.mk sc us pw hk hs hn hp port false pn pl hq q hf fg bare sp rst).ao.1.port) ((RS.mk sc us pw hk hs hn hp port false pn pl hq q hf fg bare sp rst).ao.1.opq) ((RS.mk sc us pw hk hs hn hp port false pn pl hq q hf fg bare sp rst).ao.1.pn) ((RS.mk sc us pw hk hs hn hp port false pn pl hq q hf fg bare sp rst).ao.1.pl) ((RS.mk sc us pw hk hs hn hp port false pn pl hq q hf fg bare sp rst).ao.1.hq) ((RS.mk sc us pw hk hs hn hp port false pn pl hq q hf fg bare sp rst).ao.1.q) ((RS.mk sc us pw hk hs hn hp port false pn pl hq q hf fg bare sp rst).ao.1.hf) ((RS.mk sc us pw hk hs hn hp port false pn pl hq q hf fg bare sp rst).ao.1.fg) ((RS.mk sc us pw hk hs hn hp port false pn pl hq q hf fg bare sp rst).ao.1.bare) ((RS.mk sc us pw hk hs hn hp port false pn pl hq q hf fg bare sp rst).ao.1.sp) ((RS.mk sc us pw hk hs hn hp port false pn pl hq q hf fg bare sp rst).ao.1.rst)]:=ui (by kernel_rfl) xX (H:=xW sc us pw hk hs hn hp port pn pl hq q hf fg bare sp rst) (fuel:=1000) Tryz.func47 (by kernel_rfl) (Nat.le_of_ble_eq_true rfl) fun hpre=>(Dw sc us pw hk hs hn hp port pn pl hq q hf fg bare sp rst _).mpr (by
 obtain ⟨hp1,hp2,hp3⟩:=hpre
 have hRl:=rb rst rst 0
 have hsch:(RS.mk sc us pw hk hs hn hp port false pn pl hq q hf fg bare sp rst).gh=(RS.mk (ab rst rst 0).1 us pw hk hs hn hp port false pn pl hq q hf fg false (aw (ab rst rst 0).1) (ab rst rst 0).2.1,0):=if_pos hp3
 have bA:=ID sc us pw hk hs hn hp port pn pl hq q hf fg bare sp rst
 have bB:=IC sc us pw hk hs hn hp port pn pl hq q hf fg bare sp rst
 have e0:(RS.mk sc us pw hk hs hn hp port false pn pl hq q hf fg bare sp rst).ao=(if(ab rst rst 0).1=fL then(if(RS.mk (ab rst rst 0).1 us pw hk hs hn hp port false pn pl hq q hf fg false (aw (ab rst rst 0).1) (ab rst rst 0).2.1).bc.2=0 then((RS.mk (ab rst rst 0).1 us pw hk hs hn hp port false pn pl hq q hf fg false (aw (ab rst rst 0).1) (ab rst rst 0).2.1).bc.1.tail,0)else(RS.mk (ab rst rst 0).1 us pw hk hs hn hp port false pn pl hq q hf fg false (aw (ab rst rst 0).1) (ab rst rst 0).2.1).bc)else if aw (ab rst rst 0).1=true then(RS.mk (ab rst rst 0).1 us pw hk hs hn hp port false pn pl hq q hf fg false (aw (ab rst rst 0).1) (ab rst rst 0).2.1).skip.b9 else if preB (ab rst rst 0).2.1 [47,47]=true then((RS.mk (ab rst rst 0).1 us pw hk hs hn hp port false pn pl hq q hf fg false (aw (ab rst rst 0).1) (ab rst rst 0).2.1).cut 2).b9 else if preB (ab rst rst 0).2.1 [47]=true then(((RS.mk (ab rst rst 0).1 us pw hk hs hn hp port false pn pl hq q hf fg false (aw (ab rst rst 0).1) (ab rst rst 0).2.1).cut 1).path.tail,0)else((RS.mk (ab rst rst 0).1 us pw hk hs hn hp port false pn pl hq q hf fg false (aw (ab rst rst 0).1) (ab rst rst 0).2.1).o6.tail,0)):=by
  unfold RS.ao
  rw [hsch]
  rfl
 generalize (ab rst rst 0).1=C at *
 generalize (ab rst rst 0).2.1=R at *
 have ef:(ByteArray.mk #[102,105,108,101]).data.toList=fL:=rfl
 have e22:(ByteArray.mk #[47,47]).data.toList=([47,47]:Bs):=rfl
 have e21:(ByteArray.mk #[47]).data.toList=([47]:Bs):=rfl
 have hR:R.length≤300000:=by omega
 have hQR:=iM R
 have dz:∀(l:Bs) (z:Int),l.length≤300000→(aa l z).length≤300000:=fun l z h=>Nat.le_trans (cO l z) h
 have qz:∀l:Bs,l.length≤300000→(bH l).length≤300000:=fun l h=>Nat.le_trans (iM l) h
 have c2t:preB R [47,47]=true→aj R (ByteArray.mk #[47,47]).data.toList=(aa R 2,true):=fun h=>by unfold aj;rw [e22,h];rfl
 have c2f:preB R [47,47]=false→aj R (ByteArray.mk #[47,47]).data.toList=(R,false):=fun h=>by unfold aj;rw [e22,h];rfl
 have c1t:preB R [47]=true→aj R (ByteArray.mk #[47]).data.toList=(aa R 1,true):=fun h=>by unfold aj;rw [e21,h];rfl
 have c1f:preB R [47]=false→aj R (ByteArray.mk #[47]).data.toList=(R,false):=fun h=>by unfold aj;rw [e21,h];rfl
 have hfl:=Dv (RS.mk C us pw hk hs hn hp port false pn pl hq q hf fg false (aw C) R)
 have er:=Ai (RS.mk C us pw hk hs hn hp port false pn pl hq q hf fg false (aw C) R)
 refine ⟨⟨hp1,hp3⟩,fun h=>absurd h (by decide),fun _=>⟨fun h=>(by cases h),fun _=>⟨fun hC=>⟨⟨hR,hp2⟩,fun h3=>?_,fun h3=>⟨Nat.le_trans hfl hR,qz _ (Nat.le_trans hfl hR),?_⟩⟩,fun hC=>⟨fun _=>⟨fun hsp=>⟨trivial,fun _ h=>(by cases h),fun h=>(by cases h),fun _=>?_⟩,fun hsp=>⟨fun _ h=>(by cases h),fun h=>(by cases h),fun _=>?_⟩⟩,fun h=>absurd h (by decide)⟩⟩⟩⟩
 ·have h4:¬(RS.mk C us pw hk hs hn hp port false pn pl hq q hf fg false (aw C) R).bc.2=0:=by simpa using h3
  show KT (RS.mk sc us pw hk hs hn hp port false pn pl hq q hf fg bare sp rst).ao _ _
  rw [e0,if_pos (show C=fL from of_decide_eq_true hC),if_neg h4]
  exact ⟨rfl,congrArg (fun r=>[nM r]) er.symm⟩
 ·have h4:(RS.mk C us pw hk hs hn hp port false pn pl hq q hf fg false (aw C) R).bc.2=0:=by simpa using h3
  show KT (RS.mk sc us pw hk hs hn hp port false pn pl hq q hf fg bare sp rst).ao _ _
  rw [e0,if_pos (show C=fL from of_decide_eq_true hC),if_pos h4]
  refine ⟨rfl,?_⟩
  show _=[nM (RS.mk C us pw hk hs hn hp port false pn pl hq q hf fg false (aw C) R).bc.1.tail]
  rw [gV]
  have gen:∀G:RS,G={(RS.mk C us pw hk hs hn hp port false pn pl hq q hf fg false (aw C) R)with hk:=G.hk,hs:=G.hs,hn:=G.hn,hp:=G.hp,pn:=G.pn,pl:=G.pl,rst:=G.rst}→nM {(RS.mk C us pw hk hs hn hp port false pn pl hq q hf fg false (aw C) R)with hk:=G.hk,hs:=G.hs,hn:=G.hn,hp:=G.hp,pn:=G.pn,pl:=G.pl,hq:=dU G.rst hq,q:=dV (aw C) G.rst q,hf:=dW (bH G.rst) hf,fg:=dX (bH G.rst) fg,rst:=dY (bH G.rst)}=nM {G with hq:=dU G.rst G.hq,q:=dV G.sp G.rst G.q,hf:=dW (bH G.rst) G.hf,fg:=dX (bH G.rst) G.fg,rst:=dY (bH G.rst)}:=fun G e=>by
   have a1:G.sc=C:=(by have h:=congrArg RS.sc e;exact h)
   have a2:G.us=us:=(by have h:=congrArg RS.us e;exact h)
   have a3:G.pw=pw:=(by have h:=congrArg RS.pw e;exact h)
   have a4:G.port=port:=(by have h:=congrArg RS.port e;exact h)
   have a5:G.opq=false:=(by have h:=congrArg RS.opq e;exact h)
   have a6:G.hq=hq:=(by have h:=congrArg RS.hq e;exact h)
   have a7:G.q=q:=(by have h:=congrArg RS.q e;exact h)
   have a8:G.hf=hf:=(by have h:=congrArg RS.hf e;exact h)
   have a9:G.fg=fg:=(by have h:=congrArg RS.fg e;exact h)
   have a10:G.bare=false:=(by have h:=congrArg RS.bare e;exact h)
   have a11:G.sp=aw C:=(by have h:=congrArg RS.sp e;exact h)
   simp only [a1,a2,a3,a4,a5,a6,a7,a8,a9,a10,a11]
  exact congrArg (fun y=>[y]) (gen _ er)
 ·have hC':¬C=fL:=of_decide_eq_false hC
  refine ⟨fun h=>⟨hR,rfl,⟨?_,Nat.le_trans (ra _ _ _ _) hR,hp2⟩,bA⟩,fun h=>⟨trivial,?_⟩⟩
  ·rw [e0,if_neg hC',if_pos h];rfl
  have h':¬aw C=true:=by rw [h];decide
  cases h2:preB R [47,47]with
  |true=>
   rw [c2t h2]
   refine ⟨fun _=>⟨rfl,⟨?_,dz _ _ hR,hp2⟩,bA⟩,fun h=>(by cases h)⟩
   rw [e0,if_neg hC',if_neg h',if_pos h2];rfl
  |false=>
   rw [c2f h2]
   refine ⟨fun h=>(by cases h),fun _=>⟨trivial,?_⟩⟩
   show(_=true→_)∧(_=false→_)
   have h2':¬preB R [47,47]=true:=by rw [h2];decide
   cases h1:preB R [47]with
   |true=>
    rw [c1t h1]
    refine ⟨fun _=>⟨rfl,⟨?_,dz _ _ hR,hp2⟩,bB⟩,fun h=>(by cases h)⟩
    rw [e0,if_neg hC',if_neg h',if_neg h2',if_pos h1];rfl
   |false=>
    rw [c1f h1]
    have h1':¬preB R [47]=true:=by rw [h1];decide
    refine ⟨fun h=>(by cases h),fun _=>⟨hR,dz _ _ hR,qz _ (dz _ _ hR),?_⟩⟩
    show KT (RS.mk sc us pw hk hs hn hp port false pn pl hq q hf fg bare sp rst).ao _ _
    rw [e0,if_neg hC',if_neg h',if_neg h2',if_neg h1']
    refine ⟨rfl,?_⟩
    show _=[nM (RS.mk C us pw hk hs hn hp port false pn pl hq q hf fg false (aw C) R).o6.tail]
    rw [gV]
    rfl
 ·have hC':¬C=fL:=of_decide_eq_false hC
  refine ⟨fun h=>⟨hR,rfl,⟨?_,Nat.le_trans (ra _ _ _ _) hR,hp2⟩,bA⟩,fun h=>⟨trivial,?_⟩⟩
  ·rw [e0,if_neg hC',if_pos h];rfl
  have h':¬aw C=true:=by rw [h];decide
  cases h2:preB R [47,47]with
  |true=>
   rw [c2t h2]
   refine ⟨fun _=>⟨rfl,⟨?_,dz _ _ hR,hp2⟩,bA⟩,fun h=>(by cases h)⟩
   rw [e0,if_neg hC',if_neg h',if_pos h2];rfl
  |false=>
   rw [c2f h2]
   refine ⟨fun h=>(by cases h),fun _=>⟨trivial,?_⟩⟩
   show(_=true→_)∧(_=false→_)
   have h2':¬preB R [47,47]=true:=by rw [h2];decide
   cases h1:preB R [47]with
   |true=>
    rw [c1t h1]
    refine ⟨fun _=>⟨rfl,⟨?_,dz _ _ hR,hp2⟩,bB⟩,fun h=>(by cases h)⟩
    rw [e0,if_neg hC',if_neg h',if_neg h2',if_pos h1];rfl
   |false=>
    rw [c1f h1]
    have h1':¬preB R [47]=true:=by rw [h1];decide
    refine ⟨fun h=>(by cases h),fun _=>⟨hR,dz _ _ hR,qz _ (dz _ _ hR),?_⟩⟩
    show KT (RS.mk sc us pw hk hs hn hp port false pn pl hq q hf fg bare sp rst).ao _ _
    rw [e0,if_neg hC',if_neg h',if_neg h2',if_neg h1']
    refine ⟨rfl,?_⟩
    show _=[nM (RS.mk C us pw hk hs hn hp port false pn pl hq q hf fg false (aw C) R).o6.tail]
    rw [gV]
    rfl)
end
theorem xZ(sc us pw:Bs)(hk:Int)(hs:Bs)(hn:Int)(hp:List Int)(port:Int)(pn:Bool)(pl:List Bs)(hq:Bool)(q:Bs)(hf:Bool)(fg:Bs)(bare sp:Bool)(rst:Bs):bm Tryz.prog ay 47 [.ptr 0 0] [aC 1 (.raw (.pointer none)) sc us pw hk hs hn hp port false pn pl hq q hf fg bare sp rst] (rst.length≤300000∧pl.length≤100000) (.int .i64 (RS.mk sc us pw hk hs hn hp port false pn pl hq q hf fg bare sp rst).ao.2) [aC 0 (.raw (.pointer none)) ((RS.mk sc us pw hk hs hn hp port false pn pl hq q hf fg bare sp rst).ao.1.sc) ((RS.mk sc us pw hk hs hn hp port false pn pl hq q hf fg bare sp rst).ao.1.us) ((RS.mk sc us pw hk hs hn hp port false pn pl hq q hf fg bare sp rst).ao.1.pw) ((RS.mk sc us pw hk hs hn hp port false pn pl hq q hf fg bare sp rst).ao.1.hk) ((RS.mk sc us pw hk hs hn hp port false pn pl hq q hf fg bare sp rst).ao.1.hs) ((RS.mk sc us pw hk hs hn hp port false pn pl hq q hf fg bare sp rst).ao.1.hn) ((RS.mk sc us pw hk hs hn hp port false pn pl hq q hf fg bare sp rst).ao.1.hp) ((RS.mk sc us pw hk hs hn hp port false pn pl hq q hf fg bare sp rst).ao.1.port) ((RS.mk sc us pw hk hs hn hp port false pn pl hq q hf fg bare sp rst).ao.1.opq) ((RS.mk sc us pw hk hs hn hp port false pn pl hq q hf fg bare sp rst).ao.1.pn) ((RS.mk sc us pw hk hs hn hp port false pn pl hq q hf fg bare sp rst).ao.1.pl) ((RS.mk sc us pw hk hs hn hp port false pn pl hq q hf fg bare sp rst).ao.1.hq) ((RS.mk sc us pw hk hs hn hp port false pn pl hq q hf fg bare sp rst).ao.1.q) ((RS.mk sc us pw hk hs hn hp port false pn pl hq q hf fg bare sp rst).ao.1.hf) ((RS.mk sc us pw hk hs hn hp port false pn pl hq q hf fg bare sp rst).ao.1.fg) ((RS.mk sc us pw hk hs hn hp port false pn pl hq q hf fg bare sp rst).ao.1.bare) ((RS.mk sc us pw hk hs hn hp port false pn pl hq q hf fg bare sp rst).ao.1.sp) ((RS.mk sc us pw hk hs hn hp port false pn pl hq q hf fg bare sp rst).ao.1.rst)]:=fun hpre=>by
 cases hb:(ab rst rst 0).2.2 with
 |true=>exact xY sc us pw hk hs hn hp port pn pl hq q hf fg bare sp rst ⟨hpre.1,hpre.2,hb⟩
 |false=>exact xL sc us pw hk hs hn hp port pn pl hq q hf fg bare sp rst ⟨hpre.1,hb⟩
def Dx:PV→PV
 |.row true (.strs []) 0=>.row true (.strs []) 1
 |y=>y
theorem x3 {G:Gh}{w:World}{y:PV}{u:Value}(h:aQ y G w u):aQ (Dx y) G w u:=by
 unfold Dx
 split
 ·rcases h with⟨h1,h2,h3⟩|⟨h1,-⟩
  ·exact .inl ⟨h1,h2,h3⟩
  ·cases h1
 ·exact h
theorem x4(y:PV):(Dx y).wid=y.wid:=by
 unfold Dx
 split<;>rfl
theorem x5(sc us pw:Bs)(hk:Int)(hs:Bs)(hn:Int)(hp:List Int)(port:Int)(hq:Bool)(q:Bs)(hf:Bool)(fg:Bs)(bare sp:Bool)(rst:Bs):bm Tryz.prog ay 47 [.ptr 0 0] [aC 0 (.raw (.pointer none)) sc us pw hk hs hn hp port false true [] hq q hf fg bare sp rst] (rst.length≤300000) (.int .i64 (RS.mk sc us pw hk hs hn hp port false true ([]:List Bs) hq q hf fg bare sp rst).ao.2) [aC 0 (.raw (.pointer none)) ((RS.mk sc us pw hk hs hn hp port false true ([]:List Bs) hq q hf fg bare sp rst).ao.1.sc) ((RS.mk sc us pw hk hs hn hp port false true ([]:List Bs) hq q hf fg bare sp rst).ao.1.us) ((RS.mk sc us pw hk hs hn hp port false true ([]:List Bs) hq q hf fg bare sp rst).ao.1.pw) ((RS.mk sc us pw hk hs hn hp port false true ([]:List Bs) hq q hf fg bare sp rst).ao.1.hk) ((RS.mk sc us pw hk hs hn hp port false true ([]:List Bs) hq q hf fg bare sp rst).ao.1.hs) ((RS.mk sc us pw hk hs hn hp port false true ([]:List Bs) hq q hf fg bare sp rst).ao.1.hn) ((RS.mk sc us pw hk hs hn hp port false true ([]:List Bs) hq q hf fg bare sp rst).ao.1.hp) ((RS.mk sc us pw hk hs hn hp port false true ([]:List Bs) hq q hf fg bare sp rst).ao.1.port) ((RS.mk sc us pw hk hs hn hp port false true ([]:List Bs) hq q hf fg bare sp rst).ao.1.opq) ((RS.mk sc us pw hk hs hn hp port false true ([]:List Bs) hq q hf fg bare sp rst).ao.1.pn) ((RS.mk sc us pw hk hs hn hp port false true ([]:List Bs) hq q hf fg bare sp rst).ao.1.pl) ((RS.mk sc us pw hk hs hn hp port false true ([]:List Bs) hq q hf fg bare sp rst).ao.1.hq) ((RS.mk sc us pw hk hs hn hp port false true ([]:List Bs) hq q hf fg bare sp rst).ao.1.q) ((RS.mk sc us pw hk hs hn hp port false true ([]:List Bs) hq q hf fg bare sp rst).ao.1.hf) ((RS.mk sc us pw hk hs hn hp port false true ([]:List Bs) hq q hf fg bare sp rst).ao.1.fg) ((RS.mk sc us pw hk hs hn hp port false true ([]:List Bs) hq q hf fg bare sp rst).ao.1.bare) ((RS.mk sc us pw hk hs hn hp port false true ([]:List Bs) hq q hf fg bare sp rst).ao.1.sp) ((RS.mk sc us pw hk hs hn hp port false true ([]:List Bs) hq q hf fg bare sp rst).ao.1.rst)]:=fun hpre F w vs bs τ hF hT hw hb hτ hl hx=>
 xZ sc us pw hk hs hn hp port true [] hq q hf fg bare sp rst ⟨hpre,Nat.zero_le _⟩ F w vs bs τ hF hT hw hb hτ ⟨hl.len,hl.nd,hl.bF,hl.mks,hl.inj,fun i x hx=>by
  cases i with
  |succ i=>cases hx
  |zero=>
   injection hx with hx
   subst hx
   obtain ⟨b,h1,u,e,fz,g1,g2,g3,g4,g5⟩:=hl.box 0 _ rfl
   exact ⟨b,h1,u,e,fz,g1,g2,aQ.map (f:=Dx) (fun y v _ hy=>x3 hy) (fun y _=>x4 y) g3,g4,g5⟩⟩ hx
theorem Dy(sc us pw:Bs)(hk:Int)(hs:Bs)(hn:Int)(hp:List Int)(port:Int)(hq:Bool)(q:Bs)(hf:Bool)(fg:Bs)(bare sp:Bool)(rst:Bs):ag Tryz.prog ay 47 [.ptr 0 0,aC 0 (.raw (.pointer none)) sc us pw hk hs hn hp port false true [] hq q hf fg bare sp rst] ⟨rst.length≤300000,.tup [.int .i64 (RS.mk sc us pw hk hs hn hp port false true ([]:List Bs) hq q hf fg bare sp rst).ao.2,aC 0 (.raw (.pointer none)) ((RS.mk sc us pw hk hs hn hp port false true ([]:List Bs) hq q hf fg bare sp rst).ao.1.sc) ((RS.mk sc us pw hk hs hn hp port false true ([]:List Bs) hq q hf fg bare sp rst).ao.1.us) ((RS.mk sc us pw hk hs hn hp port false true ([]:List Bs) hq q hf fg bare sp rst).ao.1.pw) ((RS.mk sc us pw hk hs hn hp port false true ([]:List Bs) hq q hf fg bare sp rst).ao.1.hk) ((RS.mk sc us pw hk hs hn hp port false true ([]:List Bs) hq q hf fg bare sp rst).ao.1.hs) ((RS.mk sc us pw hk hs hn hp port false true ([]:List Bs) hq q hf fg bare sp rst).ao.1.hn) ((RS.mk sc us pw hk hs hn hp port false true ([]:List Bs) hq q hf fg bare sp rst).ao.1.hp) ((RS.mk sc us pw hk hs hn hp port false true ([]:List Bs) hq q hf fg bare sp rst).ao.1.port) ((RS.mk sc us pw hk hs hn hp port false true ([]:List Bs) hq q hf fg bare sp rst).ao.1.opq) ((RS.mk sc us pw hk hs hn hp port false true ([]:List Bs) hq q hf fg bare sp rst).ao.1.pn) ((RS.mk sc us pw hk hs hn hp port false true ([]:List Bs) hq q hf fg bare sp rst).ao.1.pl) ((RS.mk sc us pw hk hs hn hp port false true ([]:List Bs) hq q hf fg bare sp rst).ao.1.hq) ((RS.mk sc us pw hk hs hn hp port false true ([]:List Bs) hq q hf fg bare sp rst).ao.1.q) ((RS.mk sc us pw hk hs hn hp port false true ([]:List Bs) hq q hf fg bare sp rst).ao.1.hf) ((RS.mk sc us pw hk hs hn hp port false true ([]:List Bs) hq q hf fg bare sp rst).ao.1.fg) ((RS.mk sc us pw hk hs hn hp port false true ([]:List Bs) hq q hf fg bare sp rst).ao.1.bare) ((RS.mk sc us pw hk hs hn hp port false true ([]:List Bs) hq q hf fg bare sp rst).ao.1.sp) ((RS.mk sc us pw hk hs hn hp port false true ([]:List Bs) hq q hf fg bare sp rst).ao.1.rst)]⟩:=ag.aZ (fun h=>by have e:List.isEmpty (PV.aA PV.bw [.ptr 0 0,aC 0 (.raw (.pointer none)) sc us pw hk hs hn hp port false true [] hq q hf fg bare sp rst])=false:=(by kernel_rfl);exact Bool.noConfusion (e.symm.trans (congrArg List.isEmpty h))) (x5 sc us pw hk hs hn hp port hq q hf fg bare sp rst)
def lq:List PV→Option aF:=fun xs=>match xs with
 |[.ptr 0 0,aC 0 (.raw (.pointer none)) sc us pw hk hs hn hp port false true [] hq q hf fg bare sp rst]=>some ⟨rst.length≤300000,.tup [.int .i64 (RS.mk sc us pw hk hs hn hp port false true ([]:List Bs) hq q hf fg bare sp rst).ao.2,aC 0 (.raw (.pointer none)) ((RS.mk sc us pw hk hs hn hp port false true ([]:List Bs) hq q hf fg bare sp rst).ao.1.sc) ((RS.mk sc us pw hk hs hn hp port false true ([]:List Bs) hq q hf fg bare sp rst).ao.1.us) ((RS.mk sc us pw hk hs hn hp port false true ([]:List Bs) hq q hf fg bare sp rst).ao.1.pw) ((RS.mk sc us pw hk hs hn hp port false true ([]:List Bs) hq q hf fg bare sp rst).ao.1.hk) ((RS.mk sc us pw hk hs hn hp port false true ([]:List Bs) hq q hf fg bare sp rst).ao.1.hs) ((RS.mk sc us pw hk hs hn hp port false true ([]:List Bs) hq q hf fg bare sp rst).ao.1.hn) ((RS.mk sc us pw hk hs hn hp port false true ([]:List Bs) hq q hf fg bare sp rst).ao.1.hp) ((RS.mk sc us pw hk hs hn hp port false true ([]:List Bs) hq q hf fg bare sp rst).ao.1.port) ((RS.mk sc us pw hk hs hn hp port false true ([]:List Bs) hq q hf fg bare sp rst).ao.1.opq) ((RS.mk sc us pw hk hs hn hp port false true ([]:List Bs) hq q hf fg bare sp rst).ao.1.pn) ((RS.mk sc us pw hk hs hn hp port false true ([]:List Bs) hq q hf fg bare sp rst).ao.1.pl) ((RS.mk sc us pw hk hs hn hp port false true ([]:List Bs) hq q hf fg bare sp rst).ao.1.hq) ((RS.mk sc us pw hk hs hn hp port false true ([]:List Bs) hq q hf fg bare sp rst).ao.1.q) ((RS.mk sc us pw hk hs hn hp port false true ([]:List Bs) hq q hf fg bare sp rst).ao.1.hf) ((RS.mk sc us pw hk hs hn hp port false true ([]:List Bs) hq q hf fg bare sp rst).ao.1.fg) ((RS.mk sc us pw hk hs hn hp port false true ([]:List Bs) hq q hf fg bare sp rst).ao.1.bare) ((RS.mk sc us pw hk hs hn hp port false true ([]:List Bs) hq q hf fg bare sp rst).ao.1.sp) ((RS.mk sc us pw hk hs hn hp port false true ([]:List Bs) hq q hf fg bare sp rst).ao.1.rst)]⟩
 |_=>none
theorem rW:∀xs c,lq xs=some c→ag Tryz.prog ay 47 xs c:=fun xs c h=>by
 unfold lq at h
 split at h
 ·injection h with h;subst h;exact Dy _ _ _ _ _ _ _ _ _ _ _ _ _ _ _
 ·cases h
section
theorem tD(l:Bs):(an l).length≤4*l.length:=by
 have h1:=qq l
 have h2:(cZ (bW l)).length≤(bW l).length:=(List.dropWhile_sublist _).length_le
 have h3:(eK (cZ (bW l))).length≤(cZ (bW l)).length:=by
  unfold eK
  rw [List.length_reverse]
  exact Nat.le_trans (List.dropWhile_sublist _).length_le (by rw [List.length_reverse];exact Nat.le_refl _)
 have h4:(an l).length≤(eK (cZ (bW l))).length:=List.length_filter_le _ _
 omega
def BA:cr:=bP [(46,kj),(47,lq)]
def BC(l:Bs):aY:=fun i=>none
theorem Ak:cS Tryz.prog ay BA:=ai mo (ai rW (ax))
theorem Gg(l:Bs)(k:PV→Prop):cD Tryz.prog BA ay (BC l) 1000 Tryz.f30 [.str l,.raw (.pointer none)] k=(
 (decide ((1048576:Int)<ak l)=true→
 k
 (PV.tup
 [bD (0:Nat) [] [] [] (0:Int) [] (0:Int) (List.replicate (8:Nat) (0:Int)) (0:Int) false true [] false [] false [],
 PV.int .i64 (6:Int)]))∧
 (decide ((1048576:Int)<ak l)=false→
 (List.length l).le (60000:Nat)∧
 (List.length (an l)).le (300000:Nat)∧
 ((!decide
 ((RS.mk [] [] [] (0:Int) [] (0:Int) (List.replicate (8:Nat) (0:Int)) (-1:Int) false true []
 false [] false [] false false (an l)).ao.2=
 (0:Int)))=
 true→
 k
 (PV.tup
 [bD (0:Nat) [] [] [] (0:Int) [] (0:Int) (List.replicate (8:Nat) (0:Int)) (0:Int) false true [] false [] false [],
 PV.int .i64
 (RS.mk [] [] [] (0:Int) [] (0:Int) (List.replicate (8:Nat) (0:Int)) (-1:Int) false true []
 false [] false [] false false (an l)).ao.2]))∧
 ((!decide
 ((RS.mk [] [] [] (0:Int) [] (0:Int) (List.replicate (8:Nat) (0:Int)) (-1:Int) false true []
 false [] false [] false false (an l)).ao.2=
 (0:Int)))=
 false→
 k
 (PV.tup
 [bD (0:Nat) (RS.mk [] [] [] (0:Int) [] (0:Int) (List.replicate (8:Nat) (0:Int)) (-1:Int) false true []
 false [] false [] false false (an l)).ao.1.sc (RS.mk [] [] [] (0:Int) [] (0:Int) (List.replicate (8:Nat) (0:Int)) (-1:Int) false true []
 false [] false [] false false (an l)).ao.1.us (RS.mk [] [] [] (0:Int) [] (0:Int) (List.replicate (8:Nat) (0:Int)) (-1:Int) false true []
 false [] false [] false false (an l)).ao.1.pw (RS.mk [] [] [] (0:Int) [] (0:Int) (List.replicate (8:Nat) (0:Int)) (-1:Int) false
 true [] false [] false [] false false (an l)).ao.1.hk (RS.mk [] [] [] (0:Int) [] (0:Int) (List.replicate (8:Nat) (0:Int)) (-1:Int) false
 true [] false [] false [] false false (an l)).ao.1.hs (RS.mk [] [] [] (0:Int) [] (0:Int) (List.replicate (8:Nat) (0:Int)) (-1:Int) false
 true [] false [] false [] false false (an l)).ao.1.hn (RS.mk [] [] [] (0:Int) [] (0:Int) (List.replicate (8:Nat) (0:Int)) (-1:Int) false
 true [] false [] false [] false false (an l)).ao.1.hp (RS.mk [] [] [] (0:Int) [] (0:Int) (List.replicate (8:Nat) (0:Int)) (-1:Int) false true []
 false [] false [] false false (an l)).ao.1.port (RS.mk [] [] [] (0:Int) [] (0:Int) (List.replicate (8:Nat) (0:Int)) (-1:Int) false true []
 false [] false [] false false (an l)).ao.1.opq (RS.mk [] [] [] (0:Int) [] (0:Int) (List.replicate (8:Nat) (0:Int)) (-1:Int) false true []
 false [] false [] false false (an l)).ao.1.pn (RS.mk [] [] [] (0:Int) [] (0:Int) (List.replicate (8:Nat) (0:Int)) (-1:Int) false true
 [] false [] false [] false false (an l)).ao.1.pl (RS.mk [] [] [] (0:Int) [] (0:Int) (List.replicate (8:Nat) (0:Int)) (-1:Int) false true []
 false [] false [] false false (an l)).ao.1.hq (RS.mk [] [] [] (0:Int) [] (0:Int) (List.replicate (8:Nat) (0:Int)) (-1:Int) false true []
 false [] false [] false false (an l)).ao.1.q (RS.mk [] [] [] (0:Int) [] (0:Int) (List.replicate (8:Nat) (0:Int)) (-1:Int) false true []
 false [] false [] false false (an l)).ao.1.hf (RS.mk [] [] [] (0:Int) [] (0:Int) (List.replicate (8:Nat) (0:Int)) (-1:Int) false true []
 false [] false [] false false (an l)).ao.1.fg,
 PV.int .i64 (0:Int)])))):=by kernel_rfl
attribute [local irreducible] Go.Vc.cD
theorem Gi(l:Bs):ag Tryz.prog ay 30 [.str l,.raw (.pointer none)] ⟨l.length≤60000,.tup [bD 0 ((aS l).1).sc ((aS l).1).us ((aS l).1).pw ((aS l).1).hk ((aS l).1).hs ((aS l).1).hn ((aS l).1).hp ((aS l).1).port ((aS l).1).opq ((aS l).1).pn ((aS l).1).pl ((aS l).1).hq ((aS l).1).q ((aS l).1).hf ((aS l).1).fg,.int .i64 (aS l).2]⟩:=cl (by kernel_rfl) Ak (H:=BC l) (fuel:=1000) Tryz.func30 (by kernel_rfl) fun hpre=>(Gg l _).mpr (by
 have hs:=tD l
 refine ⟨fun h=>absurd (of_decide_eq_true h) (by unfold ak;omega),fun _=>⟨show l.length≤60000 from hpre,show(an l).length≤300000 by omega,fun h=>?_,fun h=>?_⟩⟩
 ·have h2:(!decide ((RS.init (an l)).ao.2=0))=true:=h
  have h':¬(RS.init (an l)).ao.2=0:=fun e=>by rw [decide_eq_true e]at h2;cases h2
  have e:aS l=(KL,(RS.init (an l)).ao.2):=if_neg h'
  rw [e];rfl
 ·have h2:(!decide ((RS.init (an l)).ao.2=0))=false:=h
  have h':(RS.init (an l)).ao.2=0:=Classical.byContradiction fun e=>by rw [decide_eq_false e]at h2;cases h2
  have e:aS l=(RS.init (an l)).ao:=if_pos h'
  rw [e,h'];rfl)
def nN:List PV→Option aF:=fun xs=>match xs with
 |[.str l,.raw (.pointer none)]=>some ⟨l.length≤60000,.tup [bD 0 ((aS l).1).sc ((aS l).1).us ((aS l).1).pw ((aS l).1).hk ((aS l).1).hs ((aS l).1).hn ((aS l).1).hp ((aS l).1).port ((aS l).1).opq ((aS l).1).pn ((aS l).1).pl ((aS l).1).hq ((aS l).1).q ((aS l).1).hf ((aS l).1).fg,.int .i64 (aS l).2]⟩
 |_=>none
theorem vn:∀xs c,nN xs=some c→ag Tryz.prog ay 30 xs c:=fun xs c h=>by
 unfold nN at h
 split at h
 ·injection h with h;subst h;exact Gi _
 ·cases h
end
section
def x6:cr:=bP [(30,nN)]
def x7(l:Bs):aY:=fun i=>none
theorem x8:cS Tryz.prog ay x6:=ai vn (ax)
theorem Dz(l:Bs)(k:PV→Prop):cD Tryz.prog x6 ay (x7 l) 1000 Tryz.f19 [.str l] k=(
 (List.length l).le (60000:Nat)∧
 k
 (PV.tup
 [bD (0:Nat) (aS l).1.sc (aS l).1.us (aS l).1.pw (aS l).1.hk (aS l).1.hs (aS l).1.hn (aS l).1.hp (aS l).1.port (aS l).1.opq (aS l).1.pn (aS l).1.pl (aS l).1.hq (aS l).1.q (aS l).1.hf (aS l).1.fg,
 PV.int .i64 (aS l).2])):=by kernel_rfl
attribute [local irreducible] Go.Vc.cD
theorem tE(l:Bs):ag Tryz.prog ay 19 [.str l] ⟨l.length≤60000,.tup [bD 0 ((aS l).1).sc ((aS l).1).us ((aS l).1).pw ((aS l).1).hk ((aS l).1).hs ((aS l).1).hn ((aS l).1).hp ((aS l).1).port ((aS l).1).opq ((aS l).1).pn ((aS l).1).pl ((aS l).1).hq ((aS l).1).q ((aS l).1).hf ((aS l).1).fg,.int .i64 (aS l).2]⟩:=cl (by kernel_rfl) x8 (H:=x7 l) (fuel:=1000) Tryz.func19 (by kernel_rfl) fun hpre=>(Dz l _).mpr (by
 exact ⟨hpre,rfl⟩)
def lr:List PV→Option aF:=fun xs=>match xs with
 |[.str l]=>some ⟨l.length≤60000,.tup [bD 0 ((aS l).1).sc ((aS l).1).us ((aS l).1).pw ((aS l).1).hk ((aS l).1).hs ((aS l).1).hn ((aS l).1).hp ((aS l).1).port ((aS l).1).opq ((aS l).1).pn ((aS l).1).pl ((aS l).1).hq ((aS l).1).q ((aS l).1).hf ((aS l).1).fg,.int .i64 (aS l).2]⟩
 |_=>none
theorem rX:∀xs c,lr xs=some c→ag Tryz.prog ay 19 xs c:=fun xs c h=>by
 unfold lr at h
 split at h
 ·injection h with h;subst h;exact tE _
 ·cases h
end
section
def tF:cr:=bP [(156,vg),(87,jh)]
def tG(sc us pw:Bs)(hk:Int)(hs:Bs)(hn:Int)(hp:List Int)(port:Int)(opq pn:Bool)(pl:List Bs)(hq:Bool)(q:Bs)(hf:Bool)(fg:Bs)(bare sp:Bool)(rst:Bs)(bsc bus bpw:Bs)(bhk:Int)(bhs:Bs)(bhn:Int)(bhp:List Int)(bport:Int)(bopq bpn:Bool)(bpl:List Bs)(bhq:Bool)(bq:Bs)(bhf:Bool)(bfg:Bs):aY:=fun i=>none
theorem vo:cS Tryz.prog ay tF:=ai Ac (ai oQ (ax))
theorem Al(sc us pw:Bs)(hk:Int)(hs:Bs)(hn:Int)(hp:List Int)(port:Int)(opq pn:Bool)(pl:List Bs)(hq:Bool)(q:Bs)(hf:Bool)(fg:Bs)(bare sp:Bool)(rst:Bs)(bsc bus bpw:Bs)(bhk:Int)(bhs:Bs)(bhn:Int)(bhp:List Int)(bport:Int)(bopq bpn:Bool)(bpl:List Bs)(bhq:Bool)(bq:Bs)(bhf:Bool)(bfg:Bs)(k:PV→List PV→Prop):bL Tryz.prog tF ay (tG sc us pw hk hs hn hp port opq pn pl hq q hf fg bare sp rst bsc bus bpw bhk bhs bhn bhp bport bopq bpn bpl bhq bq bhf bfg) 1000 Tryz.f122 [.ptr 0 0] [aC 1 (.ptr 1 0) sc us pw hk hs hn hp port opq pn pl hq q hf fg bare sp rst,bD 0 bsc bus bpw bhk bhs bhn bhp bport bopq bpn bpl bhq bq bhf bfg] k=(
 (List.length rst).le (1000000:Nat)∧
 (br rst=true→
 k (PV.tup []) [bS (PV.ptr (1:Nat) (0:Nat)) 0 sc us pw hk hs hn hp port opq true ([]) hq q hf fg bare sp rst,bD (0:Nat) bsc bus bpw bhk bhs bhn bhp bport bopq bpn bpl bhq bq bhf bfg])∧
 (br rst=false→
 pl.length.le (1000000:Nat)∧
 k (PV.tup []) [bS (PV.ptr (1:Nat) (0:Nat)) 1 sc us pw hk hs hn hp port opq ((b5 sc (pn,pl)).1) ((b5 sc (pn,pl)).2) hq q hf fg bare sp rst,bD (0:Nat) bsc bus bpw bhk bhs bhn bhp bport bopq bpn bpl bhq bq bhf bfg])):=by kernel_rfl
attribute [local irreducible] Go.Vc.cD Go.Vc.bL
theorem vp(sc us pw:Bs)(hk:Int)(hs:Bs)(hn:Int)(hp:List Int)(port:Int)(opq pn:Bool)(pl:List Bs)(hq:Bool)(q:Bs)(hf:Bool)(fg:Bs)(bare sp:Bool)(rst:Bs)(bsc bus bpw:Bs)(bhk:Int)(bhs:Bs)(bhn:Int)(bhp:List Int)(bport:Int)(bopq bpn:Bool)(bpl:List Bs)(bhq:Bool)(bq:Bs)(bhf:Bool)(bfg:Bs):bm Tryz.prog ay 122 [.ptr 0 0] [aC 1 (.ptr 1 0) sc us pw hk hs hn hp port opq pn pl hq q hf fg bare sp rst,bD 0 bsc bus bpw bhk bhs bhn bhp bport bopq bpn bpl bhq bq bhf bfg] (rst.length≤300000∧pl.length≤1000000∧br rst=false) (.tup []) [aC 1 (.ptr 1 0) sc us pw hk hs hn hp port opq (((RS.mk sc us pw hk hs hn hp port opq pn pl hq q hf fg bare sp rst).short).pn) (((RS.mk sc us pw hk hs hn hp port opq pn pl hq q hf fg bare sp rst).short).pl) hq q hf fg bare sp rst,bD 0 bsc bus bpw bhk bhs bhn bhp bport bopq bpn bpl bhq bq bhf bfg]:=bz (by kernel_rfl) vo (H:=tG sc us pw hk hs hn hp port opq pn pl hq q hf fg bare sp rst bsc bus bpw bhk bhs bhn bhp bport bopq bpn bpl bhq bq bhf bfg) (fuel:=1000) Tryz.func122 (by kernel_rfl) (Nat.le_of_ble_eq_true rfl) fun hpre=>(Al sc us pw hk hs hn hp port opq pn pl hq q hf fg bare sp rst bsc bus bpw bhk bhs bhn bhp bport bopq bpn bpl bhq bq bhf bfg _).mpr (by
 obtain ⟨h1,h2,h3⟩:=hpre
 exact ⟨show rst.length≤1000000 by omega,fun h=>absurd (h.symm.trans h3) nofun,fun _=>⟨h2,rfl,rfl⟩⟩)
theorem Am(sc us pw:Bs)(hk:Int)(hs:Bs)(hn:Int)(hp:List Int)(port:Int)(opq pn:Bool)(pl:List Bs)(hq:Bool)(q:Bs)(hf:Bool)(fg:Bs)(bare sp:Bool)(rst:Bs)(bsc bus bpw:Bs)(bhk:Int)(bhs:Bs)(bhn:Int)(bhp:List Int)(bport:Int)(bopq bpn:Bool)(bpl:List Bs)(bhq:Bool)(bq:Bs)(bhf:Bool)(bfg:Bs):ag Tryz.prog ay 122 [.ptr 0 0,aC 1 (.ptr 1 0) sc us pw hk hs hn hp port opq pn pl hq q hf fg bare sp rst,bD 0 bsc bus bpw bhk bhs bhn bhp bport bopq bpn bpl bhq bq bhf bfg] ⟨rst.length≤300000∧pl.length≤1000000∧br rst=false,.tup [.tup [],aC 1 (.ptr 1 0) sc us pw hk hs hn hp port opq (((RS.mk sc us pw hk hs hn hp port opq pn pl hq q hf fg bare sp rst).short).pn) (((RS.mk sc us pw hk hs hn hp port opq pn pl hq q hf fg bare sp rst).short).pl) hq q hf fg bare sp rst,bD 0 bsc bus bpw bhk bhs bhn bhp bport bopq bpn bpl bhq bq bhf bfg]⟩:=ag.aZ (fun h=>by have e:List.isEmpty (PV.aA PV.bw [.ptr 0 0,aC 1 (.ptr 1 0) sc us pw hk hs hn hp port opq pn pl hq q hf fg bare sp rst,bD 0 bsc bus bpw bhk bhs bhn bhp bport bopq bpn bpl bhq bq bhf bfg])=false:=(by kernel_rfl);exact Bool.noConfusion (e.symm.trans (congrArg List.isEmpty h))) (vp sc us pw hk hs hn hp port opq pn pl hq q hf fg bare sp rst bsc bus bpw bhk bhs bhn bhp bport bopq bpn bpl bhq bq bhf bfg)
def jZ:List PV→Option aF:=fun xs=>match xs with
 |[.ptr 0 0,aC 1 (.ptr 1 0) sc us pw hk hs hn hp port opq pn pl hq q hf fg bare sp rst,bD 0 bsc bus bpw bhk bhs bhn bhp bport bopq bpn bpl bhq bq bhf bfg]=>some ⟨rst.length≤300000∧pl.length≤1000000∧br rst=false,.tup [.tup [],aC 1 (.ptr 1 0) sc us pw hk hs hn hp port opq (((RS.mk sc us pw hk hs hn hp port opq pn pl hq q hf fg bare sp rst).short).pn) (((RS.mk sc us pw hk hs hn hp port opq pn pl hq q hf fg bare sp rst).short).pl) hq q hf fg bare sp rst,bD 0 bsc bus bpw bhk bhs bhn bhp bport bopq bpn bpl bhq bq bhf bfg]⟩
 |_=>none
theorem re:∀xs c,jZ xs=some c→ag Tryz.prog ay 122 xs c:=fun xs c h=>by
 unfold jZ at h
 split at h
 ·injection h with h;subst h;exact Am _ _ _ _ _ _ _ _ _ _ _ _ _ _ _ _ _ _ _ _ _ _ _ _ _ _ _ _ _ _ _ _ _
 ·cases h
end
def DA(l:Bs):Prop:=∀b∈l,48≤b.toNat∧b.toNat≤57
def rf:Int→Bs→Int
 |n,[]=>n
 |n,b::l=>rf (n*10+(b.toNat-48)) l
theorem tH:∀(a:Bs) (n:Int) (x:UInt8),rf n (a++[x])=rf n a*10+(x.toNat-48)
 |[],n,x=>rfl
 |b::a,n,x=>tH a _ x
theorem x9:∀(a b:Bs) (n:Int),rf n (a++b)=rf (rf n a) b
 |[],b,n=>rfl
 |x::a,b,n=>x9 a b _
theorem tI:∀(l:Bs) (n m:Int),DA l→0≤n→m=min n 65536→fU m l=some (min (rf n l) 65536)
 |[],n,m,_,_,hm=>by rw [hm];rfl
 |b::l,n,m,hd,h0,hm=>by
  have hb:=hd b (List.mem_cons_self ..)
  show(if 48≤b.toNat∧b.toNat≤57 then fU (min (m*10+(b.toNat-48)) 65536) l else none)=some (min (rf (n*10+(b.toNat-48)) l) 65536)
  rw [if_pos hb]
  refine tI l _ _ (fun c hc=>hd c (List.mem_cons_of_mem _ hc)) (by omega) ?_
  rw [hm]
  have hb':(48:Int)≤b.toNat∧(b.toNat:Int)≤57:=by omega
  by_cases h1:n≤65536
  ·rw [Int.min_eq_left h1]
  ·rw [Int.min_eq_right (show(65536:Int)≤n by omega),Int.min_eq_right (show(65536:Int)≤65536*10+(b.toNat-48) by omega),Int.min_eq_right (show(65536:Int)≤n*10+(b.toNat-48) by omega)]
theorem tJ:∀k:Nat,rf 0 (List.replicate k 48)=0
 |0=>rfl
 |k+1=>tJ k
theorem IE:∀u:Nat,rf 0 (Lib.decDigits u)=u:=by
 intro u
 induction u using Nat.strongRecOn with
 |_ u ih=>
  have mk:∀d:Nat,d<10→((jH (48+(d:Int))).toNat:Int)=48+d:=fun d hd=>by
   unfold jH
   have:(48+(d:Int)).toNat=48+d:=by omega
   rw [this]
   have:(UInt8.ofNat (48+d)).toNat=(48+d) %256:=rfl
   rw [this];omega
  by_cases h:u<10
  ·rw [gq h]
   show(0:Int)*10+(((jH (48+(u:Int))).toNat:Int)-48)=u
   rw [mk u h];omega
  ·rw [iI h,tH,ih (u/10) (by omega),mk (u %10) (by omega)]
   omega
theorem ya(u:Nat):DA (Lib.decDigits u):=by
 induction u using Nat.strongRecOn with
 |_ u ih=>
  have mk:∀d:Nat,d<10→48≤(jH (48+(d:Int))).toNat∧(jH (48+(d:Int))).toNat≤57:=fun d hd=>by
   unfold jH
   have e:(48+(d:Int)).toNat=48+d:=by omega
   rw [e]
   have:(UInt8.ofNat (48+d)).toNat=(48+d) %256:=rfl
   rw [this];omega
  by_cases h:u<10
  ·rw [gq h]
   intro b hb
   rw [List.mem_singleton]at hb
   rw [hb];exact mk u h
  ·rw [iI h]
   intro b hb
   rcases List.mem_append.1 hb with hb|hb
   ·exact ih (u/10) (by omega) b hb
   ·rw [List.mem_singleton]at hb
    rw [hb];exact mk (u %10) (by omega)
theorem DC(sc:Bs)(port:Int)(k u:Nat):cA sc port (List.replicate k 48++Lib.decDigits u)=if 65535<u then(port,8)else if aw sc=true∧wR sc=u then(port,0)else((u:Int),0):=by
 have hd:DA (List.replicate k 48++Lib.decDigits u):=fun b hb=>by
  rcases List.mem_append.1 hb with hb|hb
  ·rw [(List.mem_replicate.1 hb).2];decide
  ·exact ya u b hb
 have hv:rf 0 (List.replicate k 48++Lib.decDigits u)=u:=by rw [x9,tJ,IE]
 have hp:=tI _ 0 0 hd (by omega) (by decide)
 rw [hv]at hp
 have hne:List.replicate k 48++Lib.decDigits u≠[]:=by
  have:=(Hg u).1
  intro e
  have h2:=congrArg List.length e
  rw [List.length_append,List.length_replicate,List.length_nil]at h2
  omega
 have main:∀l:Bs,l≠[]→fU 0 l=some (min (u:Int) 65536)→cA sc port l=if 65535<u then(port,8)else if aw sc=true∧wR sc=u then(port,0)else((u:Int),0):=fun l hl hpl=>by
  cases l with
  |nil=>exact absurd rfl hl
  |cons b l=>
   unfold cA
   dsimp only
   rw [hpl]
   dsimp only
   by_cases h:65535<u
   ·have:min (u:Int) 65536=65536:=by omega
    rw [this,if_pos (by omega),if_pos h]
   ·have:min (u:Int) 65536=u:=by omega
    rw [this,if_neg (by omega),if_neg h]
 exact main _ hne hp
theorem Kd(r:RS)(ds:Bs)(hd:DA ds)(hr:r.rst=(104::58::ds)++47::[112]):
 ∃kd hs,r.ba=({r with hk:=kd,hs:=hs,hn:=0,hp:=z8,port:=(cA r.sc r.port ds).1,rst:=[47,112]},(cA r.sc r.port ds).2):=by
 have hx:∀b∈(104::58::ds:Bs),(ey r.sp++[63,35]).contains b=false:=by
  have all:∀(sp:Bool) (b:UInt8),(b.toNat=104∨(48≤b.toNat∧b.toNat≤58))→(ey sp++[63,35]).contains b=false:=by
   intro sp b h
   have ne:∀c:UInt8,c.toNat<48∨c.toNat=63∨c.toNat=92→b≠c:=fun c hc e=>by subst e;omega
   have e1:=ne 47 (by decide)
   have e2:=ne 92 (by decide)
   have e3:=ne 63 (by decide)
   have e4:=ne 35 (by decide)
   cases sp<;>simp [ey,e1,e2,e3,e4]
  intro b hb
  rcases List.mem_cons.1 hb with rfl|hb
  ·exact all _ _ (.inl rfl)
  ·rcases List.mem_cons.1 hb with rfl|hb
   ·exact all _ _ (.inr ⟨by decide,by decide⟩)
   ·exact all _ _ (.inr ⟨(hd b hb).1,by have:=(hd b hb).2;omega⟩)
 have h47:(ey r.sp++[63,35]).contains 47=true:=by cases r.sp<;>rfl
 have he:ah r.sp r.rst=(104::58::ds:Bs).length:=by unfold ah;rw [hr];exact Ft hx h47
 have ht:ae r.rst (ah r.sp r.rst)=104::58::ds:=by rw [he,hr];exact CW _ _
 have hdr:aa r.rst (ah r.sp r.rst)=[47,112]:=by rw [he,hr];exact CX _ _
 have hl:¬0≤aI (104::58::ds) 64:=Fu fun b hb=>by
  rcases List.mem_cons.1 hb with rfl|hb
  ·decide
  ·rcases List.mem_cons.1 hb with rfl|hb
   ·decide
   ·have:=hd b hb;omega
 have hc:bd (104::58::ds)=1:=rfl
 have hh:∃kd hs,aO r.sp [104]=(kd,hs,0,z8,0):=by
  cases r.sp
  ·exact ⟨5,[104],by decide+kernel⟩
  ·exact ⟨2,[104],by decide+kernel⟩
 obtain ⟨kd,hs,hh⟩:=hh
 refine ⟨kd,hs,?_⟩
 unfold RS.ba
 dsimp only
 rw [ht,if_neg hl]
 unfold RS.bO
 rw [hc,if_neg (by rintro (h|⟨h,-⟩)<;>cases h)]
 dsimp only
 rw [if_pos (show(0:Int)<1 by decide),if_pos (show(0:Int)<1 by decide)]
 have e1:ae (104::58::ds) 1=[104]:=rfl
 have e2:aa (104::58::ds) (1+1)=ds:=rfl
 rw [e1,e2,show(RS.cut r (ah r.sp r.rst)).sp=r.sp from rfl,hh]
 dsimp only
 rw [if_pos rfl]
 unfold RS.cut
 dsimp only
 rw [hdr]
theorem yb:∀(l:List UInt8),(∀b∈l,(b.toNat:Int)≤127)→fk l=true:=by
 intro l
 induction l with
 |nil=>intro _;rfl
 |cons b t ih=>
  intro h
  rw [jG (by simp),AR (l:=b::t) (by simp) (h b List.mem_cons_self)]
  exact ih fun c hc=>h c (List.mem_cons_of_mem _ hc)
def DD(S:Bs)(O:Int):Prop:=(S=fH∧O=80)∨(S=fS∧O=443)∨(S=fW∧O=80)∨(S=fV∧O=443)∨(S=fF∧O=21)∨(S=[120]∧O=-2)
theorem Gj {S:Bs}{O:Int}(h:DD S O):S≠[]∧(∀b∈S,rE b=true)∧bX S=S∧(∀b∈S,32<b.toNat∧(b.toNat:Int)≤127):=by
 rcases h with⟨rfl,-⟩|⟨rfl,-⟩|⟨rfl,-⟩|⟨rfl,-⟩|⟨rfl,-⟩|⟨rfl,-⟩<;>decide
theorem DE(r:RS):r.shl.path.tail.port=r.port:=by rw [gV];rfl
theorem Gk {S:Bs}{O:Int}(hS:DD S O)(ds:Bs)(hd:DA ds):(aS (S++58::47::47::104::58::(ds++[47,112]))).2=(cA S (-1) ds).2∧((cA S (-1) ds).2=0→(aS (S++58::47::47::104::58::(ds++[47,112]))).1.port=(cA S (-1) ds).1):=by
 obtain ⟨h1,h2,h3,h4⟩:=Gj hS
 have hb:∀b∈S++58::47::47::104::58::(ds++[47,112]),32<b.toNat∧(b.toNat:Int)≤127:=fun b hb=>by
  rcases List.mem_append.1 hb with hb|hb
  ·exact h4 b hb
  ·rcases List.mem_cons.1 hb with rfl|hb
   ·decide
   rcases List.mem_cons.1 hb with rfl|hb
   ·decide
   rcases List.mem_cons.1 hb with rfl|hb
   ·decide
   rcases List.mem_cons.1 hb with rfl|hb
   ·decide
   rcases List.mem_cons.1 hb with rfl|hb
   ·decide
   rcases List.mem_append.1 hb with hb|hb
   ·have:=hd b hb;omega
   ·rcases List.mem_cons.1 hb with rfl|hb
    ·decide
    rcases List.mem_cons.1 hb with rfl|hb
    ·decide
    cases hb
 have hst:an (S++58::47::47::104::58::(ds++[47,112]))=S++58::47::47::104::58::(ds++[47,112]):=Fw (yb _ fun b h=>(hb b h).2) fun b h=>(hb b h).1
 have hp:∃sp,(RS.init (S++58::47::47::104::58::(ds++[47,112]))).ao=({RS.init (104::58::(ds++[47,112]))with sc:=S,sp:=sp,bare:=false}:RS).b9:=by
  have hx:(S≠[120]→aw S=true∧S≠fL)∧(S=[120]→aw S=false):=by
   rcases hS with⟨rfl,-⟩|⟨rfl,-⟩|⟨rfl,-⟩|⟨rfl,-⟩|⟨rfl,-⟩|⟨rfl,-⟩<;>decide
  by_cases he:S=[120]
  ·refine ⟨false,?_⟩
   have:=xm (l:=S++58::47::47::104::58::(ds++[47,112])) rfl h1 h2 (by rw [h3];exact hx.2 he)
   rw [h3]at this
   exact this
  ·refine ⟨true,?_⟩
   have:=rI (l:=S++58::47::47::104::58::(ds++[47,112])) rfl h1 h2 (by rw [h3];exact (hx.1 he).2) (by rw [h3];exact (hx.1 he).1)
   rw [h3]at this
   rw [this]
   have hk:aB (47::47::104::58::(ds++[47,112]):Bs).length true 0 (47::47::104::58::(ds++[47,112]))=104::58::(ds++[47,112]):=by
    rw [Be 47 _ (.inl rfl) (.inl rfl),Be 47 _ (.inl rfl) (.inl rfl)]
    refine CY ?_
    unfold az
    have:al (104::58::(ds++[47,112])) 0=104:=rfl
    rw [this]
    cases decide ((0:Int)<ak (104::58::(ds++[47,112]):Bs))<;>rfl
   show RS.b9 {RS.init (47::47::104::58::(ds++[47,112]))with sc:=S,sp:=true,bare:=false,rst:=aB (47::47::104::58::(ds++[47,112]):Bs).length true 0 (47::47::104::58::(ds++[47,112]))}=_
   rw [hk]
   rfl
 obtain ⟨sp,hp⟩:=hp
 obtain ⟨kd,hs,ha⟩:=Kd ({RS.init (104::58::(ds++[47,112]))with sc:=S,sp:=sp,bare:=false}:RS) ds hd rfl
 have hu:aS (S++58::47::47::104::58::(ds++[47,112]))=KS ({RS.init (104::58::(ds++[47,112]))with sc:=S,sp:=sp,bare:=false}:RS).b9:=by
  unfold aS
  rw [hst,hp]
 rw [hu]
 unfold RS.b9
 rw [ha]
 dsimp only
 have e1:({RS.init (104::58::(ds++[47,112]))with sc:=S,sp:=sp,bare:=false}:RS).port=-1:=rfl
 by_cases hc:(cA S (-1) ds).2=0
 ·have ht:¬(sp=false∧bN [47,112]=true):=by rintro ⟨-,h⟩;revert h;decide
  rw [show(cA S (RS.init (104::58::(ds++[47,112]))).port ds)=cA S (-1) ds from rfl,if_pos hc,if_neg ht]
  unfold KS
  rw [if_pos rfl]
  exact ⟨hc.symm,fun _=>by rw [DE]⟩
 ·rw [show(cA S (RS.init (104::58::(ds++[47,112]))).port ds)=cA S (-1) ds from rfl,if_neg hc]
  unfold KS
  rw [if_neg hc]
  exact ⟨rfl,fun h=>absurd h hc⟩
theorem IF {S:Bs}{O:Int}(h:DD S O)(u:Nat):(aw S=true∧wR S=(u:Int))↔(u:Int)=O:=by
 rcases h with⟨rfl,rfl⟩|⟨rfl,rfl⟩|⟨rfl,rfl⟩|⟨rfl,rfl⟩|⟨rfl,rfl⟩|⟨rfl,rfl⟩
 ·rw [show aw fH=true by decide,show wR fH=80 by decide];exact ⟨fun h=>h.2.symm,fun h=>⟨rfl,h.symm⟩⟩
 ·rw [show aw fS=true by decide,show wR fS=443 by decide];exact ⟨fun h=>h.2.symm,fun h=>⟨rfl,h.symm⟩⟩
 ·rw [show aw fW=true by decide,show wR fW=80 by decide];exact ⟨fun h=>h.2.symm,fun h=>⟨rfl,h.symm⟩⟩
 ·rw [show aw fV=true by decide,show wR fV=443 by decide];exact ⟨fun h=>h.2.symm,fun h=>⟨rfl,h.symm⟩⟩
 ·rw [show aw fF=true by decide,show wR fF=21 by decide];exact ⟨fun h=>h.2.symm,fun h=>⟨rfl,h.symm⟩⟩
 ·rw [show aw [120]=false by decide];exact ⟨fun h=>(by cases h.1),fun h=>absurd h (by omega)⟩
theorem An {S:Bs}{O:Int}(hS:DD S O)(k u:Nat):(65535<u→(aS (S++58::47::47::104::58::((List.replicate k 48++Lib.decDigits u)++[47,112]))).2=8)∧
 (¬65535<u→(aS (S++58::47::47::104::58::((List.replicate k 48++Lib.decDigits u)++[47,112]))).2=0∧(aS (S++58::47::47::104::58::((List.replicate k 48++Lib.decDigits u)++[47,112]))).1.port=if(u:Int)=O then -1 else(u:Int)):=by
 have hd:DA (List.replicate k 48++Lib.decDigits u):=fun b hb=>by
  rcases List.mem_append.1 hb with hb|hb
  ·rw [(List.mem_replicate.1 hb).2];decide
  ·exact ya u b hb
 obtain ⟨h1,h2⟩:=Gk hS _ hd
 have hm:=DC S (-1) k u
 have ho:=IF hS u
 refine ⟨fun h=>?_,fun h=>?_⟩
 ·rw [if_pos h]at hm
  rw [h1,hm]
 ·rw [if_neg h]at hm
  by_cases he:(u:Int)=O
  ·rw [if_pos (ho.2 he)]at hm
   rw [if_pos he]
   exact ⟨by rw [h1,hm],by rw [h2 (by rw [hm]),hm]⟩
  ·rw [if_neg (fun hh=>he (ho.1 hh))]at hm
   rw [if_neg he]
   exact ⟨by rw [h1,hm],by rw [h2 (by rw [hm]),hm]⟩
theorem Ao {S:Bs}{O:Int}(hS:DD S O):(aS (S++[58,47,47,104,58,47,112])).2=0∧(aS (S++[58,47,47,104,58,47,112])).1.port=-1:=by
 obtain ⟨h1,h2⟩:=Gk hS [] (fun b hb=>by cases hb)
 exact ⟨h1,h2 rfl⟩
end Go.Proofs.YtmfapopclbnlpaaGreatDoor
