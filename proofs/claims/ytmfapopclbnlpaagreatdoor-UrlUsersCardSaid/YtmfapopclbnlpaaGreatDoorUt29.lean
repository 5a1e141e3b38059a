import Derived.Test.YtmfapopclbnlpaaGreatDoorProg
import Derived.ProofKit
import Derived.Test.YtmfapopclbnlpaaGreatDoorUt6
import Derived.Test.YtmfapopclbnlpaaGreatDoorUt18
import Derived.Test.YtmfapopclbnlpaaGreatDoorUt20
import Derived.Test.YtmfapopclbnlpaaGreatDoorUt25
set_option linter.unusedVariables false
set_option linter.unusedSimpArgs false
set_option maxRecDepth 100000
set_option maxHeartbeats 4000000
namespace Go.Proofs.YtmfapopclbnlpaaGreatDoor
open Go Go.Proofs Go.RowKit Go.Vc
section
theorem kG(r:RS)(s:Bs):(r.bM s).1={r with hk:=(r.bM s).1.hk,hs:=(r.bM s).1.hs,hn:=(r.bM s).1.hn,hp:=(r.bM s).1.hp,port:=(r.bM s).1.port}:=by
 unfold RS.bM
 dsimp only
 (repeat' split)<;>rfl
theorem DF(r:RS):r.aX.1={r with us:=r.aX.1.us,pw:=r.aX.1.pw,hk:=r.aX.1.hk,hs:=r.aX.1.hs,hn:=r.aX.1.hn,hp:=r.aX.1.hp,port:=r.aX.1.port,rst:=aa r.rst (ah r.sp r.rst)}:=by
 unfold RS.aX
 dsimp only
 split
 ·split
  ·rfl
  ·rw [kG];rfl
 ·rw [kG];rfl
theorem Ar(r:RS):r.bb.1={r with hk:=r.bb.1.hk,hs:=r.bb.1.hs,hn:=r.bb.1.hn,hp:=r.bb.1.hp,pn:=r.bb.1.pn,pl:=r.bb.1.pl,rst:=r.bb.1.rst}:=by
 unfold RS.bb
 dsimp only
 split
 ·split
  ·rfl
  ·split
   ·rw [eu];rfl
   ·rw [eu];rfl
 ·rfl
theorem rh(r:RS):r.path.rst.length≤r.rst.length:=cO _ _
theorem vx(r:RS):r.av.1.rst.length≤r.rst.length:=by rw [eu];exact cO _ _
theorem DG(r:RS):r.bb.1.rst.length≤r.rst.length:=by
 unfold RS.bb
 dsimp only
 split
 ·have h2:=cO r.rst 2
  split
  ·exact Nat.le_trans (rh _) h2
  ·have h3:=vx (({r with hk:=1}:RS).cut 2)
   split
   ·exact Nat.le_trans (rh _) (Nat.le_trans (mG _ _) (Nat.le_trans h3 h2))
   ·exact Nat.le_trans h3 h2
 ·exact Nat.le_trans (rh _) (mG _ _)
theorem ri:∀(f:Nat) (sp:Bool) (n:Int) (l:Bs),(aB f sp n l).length≤l.length
 |0,_,_,l=>Nat.le_refl _
 |f+1,sp,n,l=>by
  unfold aB
  split
  ·exact Nat.le_trans (ri f sp (n+1) _) (cO _ _)
  ·exact Nat.le_refl _
theorem rj(l:Bs):∀(r:Bs) (i:Nat),(ab l r i).2.1.length≤l.length
 |[],_=>Nat.zero_le _
 |c::r,i=>by
  unfold ab
  split
  ·exact rj l r (i+1)
  ·split
   ·exact Nat.zero_le _
   ·split
    ·show(l.drop (i+1)).length≤_
     rw [List.length_drop];omega
    ·split
     ·exact rj l r (i+1)
     ·exact Nat.zero_le _
theorem gT(r:RS):r.tail={r with hq:=dW r.rst r.hq,q:=dX r.sp r.rst r.q,hf:=dY (bG r.rst) r.hf,fg:=dZ (bG r.rst) r.fg,rst:=eb (bG r.rst)}:=by
 unfold RS.tail
 rw [IC,Gf]
theorem iJ(l:Bs):(bG l).length≤l.length:=by
 unfold bG
 split
 ·exact Nat.le_trans (cO _ _) (cO _ _)
 ·exact Nat.le_refl _
def nR(r:RS):PV:=(aC 0 (.raw (.pointer none)) (r.sc) (r.us) (r.pw) (r.hk) (r.hs) (r.hn) (r.hp) (r.port) (r.opq) (r.pn) (r.pl) (r.hq) (r.q) (r.hf) (r.fg) (r.bare) (r.sp) (r.rst))
def KT(o:RS×Int):PV→List PV→Prop:=fun v os=>v=.int .i64 o.2∧PV.ba (PV.aS cR) os=[nR o.1]
def As(k:PV→List PV→Prop)(sc us pw:Bs)(hk:Int)(hs:Bs)(hn:Int)(hp:List Int)(port:Int)(pn:Bool)(pl:List Bs)(hq:Bool)(q:Bs)(hf:Bool)(fg:Bs)(bare sp:Bool)(rst:Bs):Prop:=∀(x:RS),(RS.mk sc us pw hk hs hn hp port false pn pl hq q hf fg bare sp rst).ao=x.b7∧
 List.length x.rst≤(300000:Nat)∧
 x.pl.length≤(100000:Nat)→
 (List.length x.rst).le (300000:Nat)∧
 ((!decide (x.aX.2=(0:Int)))=true→
 k (PV.int .i64 x.aX.2) [bT (PV.raw (Go.Value.pointer none)) 1 x.sc (x.aX.1.us) (x.aX.1.pw) (x.aX.1.hk) (x.aX.1.hs) (x.aX.1.hn) (x.aX.1.hp) (x.aX.1.port) x.opq x.pn x.pl x.hq x.q x.hf x.fg x.bare x.sp (aa x.rst ↑(ah x.sp x.rst))])∧
 ((!decide (x.aX.2=(0:Int)))=false→
 ((!x.sp)=true→
 True∧
 (bQ (aa x.rst ↑(ah x.sp x.rst))=true→
 (aa x.rst ↑(ah x.sp x.rst)).length.le (300000:Nat)∧
 (List.length (bG (aa x.rst ↑(ah x.sp x.rst)))).le (300000:Nat)∧
 k (PV.int .i64 (0:Int)) [bT (PV.raw (Go.Value.pointer none)) 1 x.sc (x.aX.1.us) (x.aX.1.pw) (x.aX.1.hk) (x.aX.1.hs) (x.aX.1.hn) (x.aX.1.hp) (x.aX.1.port) x.opq x.pn x.pl (dW (aa x.rst ↑(ah x.sp x.rst)) x.hq) (dX x.sp (aa x.rst ↑(ah x.sp x.rst)) x.q) (dY (bG (aa x.rst ↑(ah x.sp x.rst))) x.hf) (dZ (bG (aa x.rst ↑(ah x.sp x.rst))) x.fg) x.bare x.sp (eb (bG (aa x.rst ↑(ah x.sp x.rst))))])∧
 (bQ (aa x.rst ↑(ah x.sp x.rst))=false→
 True∧
 (List.length (if az x.sp (aa x.rst ↑(ah x.sp x.rst)) (0:Int)=true then aa (aa x.rst ↑(ah x.sp x.rst)) (1:Int)else aa x.rst ↑(ah x.sp x.rst))≤(300000:Nat)∧
 x.pl.length≤(100000:Nat))∧
 (aa (if az x.sp (aa x.rst ↑(ah x.sp x.rst)) (0:Int)=true then aa (aa x.rst ↑(ah x.sp x.rst)) (1:Int)else aa x.rst ↑(ah x.sp x.rst)) ↑(aE (if az x.sp (aa x.rst ↑(ah x.sp x.rst)) (0:Int)=true then aa (aa x.rst ↑(ah x.sp x.rst)) (1:Int)else aa x.rst ↑(ah x.sp x.rst)))).length.le (300000:Nat)∧
 (List.length (bG (aa (if az x.sp (aa x.rst ↑(ah x.sp x.rst)) (0:Int)=true then aa (aa x.rst ↑(ah x.sp x.rst)) (1:Int)else aa x.rst ↑(ah x.sp x.rst)) ↑(aE (if az x.sp (aa x.rst ↑(ah x.sp x.rst)) (0:Int)=true then aa (aa x.rst ↑(ah x.sp x.rst)) (1:Int)else aa x.rst ↑(ah x.sp x.rst)))))).le (300000:Nat)∧
 k (PV.int .i64 (0:Int)) [bT (PV.raw (Go.Value.pointer none)) 1 x.sc (x.aX.1.us) (x.aX.1.pw) (x.aX.1.hk) (x.aX.1.hs) (x.aX.1.hn) (x.aX.1.hp) (x.aX.1.port) x.opq ((bo x.sp x.sc (ae (if az x.sp (aa x.rst ↑(ah x.sp x.rst)) (0:Int)=true then aa (aa x.rst ↑(ah x.sp x.rst)) (1:Int)else aa x.rst ↑(ah x.sp x.rst)) ↑(aE (if az x.sp (aa x.rst ↑(ah x.sp x.rst)) (0:Int)=true then aa (aa x.rst ↑(ah x.sp x.rst)) (1:Int)else aa x.rst ↑(ah x.sp x.rst)))) (x.pn,x.pl)).1) ((bo x.sp x.sc (ae (if az x.sp (aa x.rst ↑(ah x.sp x.rst)) (0:Int)=true then aa (aa x.rst ↑(ah x.sp x.rst)) (1:Int)else aa x.rst ↑(ah x.sp x.rst)) ↑(aE (if az x.sp (aa x.rst ↑(ah x.sp x.rst)) (0:Int)=true then aa (aa x.rst ↑(ah x.sp x.rst)) (1:Int)else aa x.rst ↑(ah x.sp x.rst)))) (x.pn,x.pl)).2) (dW (aa (if az x.sp (aa x.rst ↑(ah x.sp x.rst)) (0:Int)=true then aa (aa x.rst ↑(ah x.sp x.rst)) (1:Int)else aa x.rst ↑(ah x.sp x.rst)) ↑(aE (if az x.sp (aa x.rst ↑(ah x.sp x.rst)) (0:Int)=true then aa (aa x.rst ↑(ah x.sp x.rst)) (1:Int)else aa x.rst ↑(ah x.sp x.rst)))) x.hq) (dX x.sp (aa (if az x.sp (aa x.rst ↑(ah x.sp x.rst)) (0:Int)=true then aa (aa x.rst ↑(ah x.sp x.rst)) (1:Int)else aa x.rst ↑(ah x.sp x.rst)) ↑(aE (if az x.sp (aa x.rst ↑(ah x.sp x.rst)) (0:Int)=true then aa (aa x.rst ↑(ah x.sp x.rst)) (1:Int)else aa x.rst ↑(ah x.sp x.rst)))) x.q) (dY (bG (aa (if az x.sp (aa x.rst ↑(ah x.sp x.rst)) (0:Int)=true then aa (aa x.rst ↑(ah x.sp x.rst)) (1:Int)else aa x.rst ↑(ah x.sp x.rst)) ↑(aE (if az x.sp (aa x.rst ↑(ah x.sp x.rst)) (0:Int)=true then aa (aa x.rst ↑(ah x.sp x.rst)) (1:Int)else aa x.rst ↑(ah x.sp x.rst))))) x.hf) (dZ (bG (aa (if az x.sp (aa x.rst ↑(ah x.sp x.rst)) (0:Int)=true then aa (aa x.rst ↑(ah x.sp x.rst)) (1:Int)else aa x.rst ↑(ah x.sp x.rst)) ↑(aE (if az x.sp (aa x.rst ↑(ah x.sp x.rst)) (0:Int)=true then aa (aa x.rst ↑(ah x.sp x.rst)) (1:Int)else aa x.rst ↑(ah x.sp x.rst))))) x.fg) x.bare x.sp (eb (bG (aa (if az x.sp (aa x.rst ↑(ah x.sp x.rst)) (0:Int)=true then aa (aa x.rst ↑(ah x.sp x.rst)) (1:Int)else aa x.rst ↑(ah x.sp x.rst)) ↑(aE (if az x.sp (aa x.rst ↑(ah x.sp x.rst)) (0:Int)=true then aa (aa x.rst ↑(ah x.sp x.rst)) (1:Int)else aa x.rst ↑(ah x.sp x.rst))))))]))∧
 ((!x.sp)=!true→
 (false=true→
 (aa x.rst ↑(ah x.sp x.rst)).length.le (300000:Nat)∧
 (List.length (bG (aa x.rst ↑(ah x.sp x.rst)))).le (300000:Nat)∧
 k (PV.int .i64 (0:Int)) [bT (PV.raw (Go.Value.pointer none)) 1 x.sc (x.aX.1.us) (x.aX.1.pw) (x.aX.1.hk) (x.aX.1.hs) (x.aX.1.hn) (x.aX.1.hp) (x.aX.1.port) x.opq x.pn x.pl (dW (aa x.rst ↑(ah x.sp x.rst)) x.hq) (dX x.sp (aa x.rst ↑(ah x.sp x.rst)) x.q) (dY (bG (aa x.rst ↑(ah x.sp x.rst))) x.hf) (dZ (bG (aa x.rst ↑(ah x.sp x.rst))) x.fg) x.bare x.sp (eb (bG (aa x.rst ↑(ah x.sp x.rst))))])∧
 (false=false→
 True∧
 (List.length (if az x.sp (aa x.rst ↑(ah x.sp x.rst)) (0:Int)=true then aa (aa x.rst ↑(ah x.sp x.rst)) (1:Int)else aa x.rst ↑(ah x.sp x.rst))≤(300000:Nat)∧
 x.pl.length≤(100000:Nat))∧
 (aa (if az x.sp (aa x.rst ↑(ah x.sp x.rst)) (0:Int)=true then aa (aa x.rst ↑(ah x.sp x.rst)) (1:Int)else aa x.rst ↑(ah x.sp x.rst)) ↑(aE (if az x.sp (aa x.rst ↑(ah x.sp x.rst)) (0:Int)=true then aa (aa x.rst ↑(ah x.sp x.rst)) (1:Int)else aa x.rst ↑(ah x.sp x.rst)))).length.le (300000:Nat)∧
 (List.length (bG (aa (if az x.sp (aa x.rst ↑(ah x.sp x.rst)) (0:Int)=true then aa (aa x.rst ↑(ah x.sp x.rst)) (1:Int)else aa x.rst ↑(ah x.sp x.rst)) ↑(aE (if az x.sp (aa x.rst ↑(ah x.sp x.rst)) (0:Int)=true then aa (aa x.rst ↑(ah x.sp x.rst)) (1:Int)else aa x.rst ↑(ah x.sp x.rst)))))).le (300000:Nat)∧
 k (PV.int .i64 (0:Int)) [bT (PV.raw (Go.Value.pointer none)) 1 x.sc (x.aX.1.us) (x.aX.1.pw) (x.aX.1.hk) (x.aX.1.hs) (x.aX.1.hn) (x.aX.1.hp) (x.aX.1.port) x.opq ((bo x.sp x.sc (ae (if az x.sp (aa x.rst ↑(ah x.sp x.rst)) (0:Int)=true then aa (aa x.rst ↑(ah x.sp x.rst)) (1:Int)else aa x.rst ↑(ah x.sp x.rst)) ↑(aE (if az x.sp (aa x.rst ↑(ah x.sp x.rst)) (0:Int)=true then aa (aa x.rst ↑(ah x.sp x.rst)) (1:Int)else aa x.rst ↑(ah x.sp x.rst)))) (x.pn,x.pl)).1) ((bo x.sp x.sc (ae (if az x.sp (aa x.rst ↑(ah x.sp x.rst)) (0:Int)=true then aa (aa x.rst ↑(ah x.sp x.rst)) (1:Int)else aa x.rst ↑(ah x.sp x.rst)) ↑(aE (if az x.sp (aa x.rst ↑(ah x.sp x.rst)) (0:Int)=true then aa (aa x.rst ↑(ah x.sp x.rst)) (1:Int)else aa x.rst ↑(ah x.sp x.rst)))) (x.pn,x.pl)).2) (dW (aa (if az x.sp (aa x.rst ↑(ah x.sp x.rst)) (0:Int)=true then aa (aa x.rst ↑(ah x.sp x.rst)) (1:Int)else aa x.rst ↑(ah x.sp x.rst)) ↑(aE (if az x.sp (aa x.rst ↑(ah x.sp x.rst)) (0:Int)=true then aa (aa x.rst ↑(ah x.sp x.rst)) (1:Int)else aa x.rst ↑(ah x.sp x.rst)))) x.hq) (dX x.sp (aa (if az x.sp (aa x.rst ↑(ah x.sp x.rst)) (0:Int)=true then aa (aa x.rst ↑(ah x.sp x.rst)) (1:Int)else aa x.rst ↑(ah x.sp x.rst)) ↑(aE (if az x.sp (aa x.rst ↑(ah x.sp x.rst)) (0:Int)=true then aa (aa x.rst ↑(ah x.sp x.rst)) (1:Int)else aa x.rst ↑(ah x.sp x.rst)))) x.q) (dY (bG (aa (if az x.sp (aa x.rst ↑(ah x.sp x.rst)) (0:Int)=true then aa (aa x.rst ↑(ah x.sp x.rst)) (1:Int)else aa x.rst ↑(ah x.sp x.rst)) ↑(aE (if az x.sp (aa x.rst ↑(ah x.sp x.rst)) (0:Int)=true then aa (aa x.rst ↑(ah x.sp x.rst)) (1:Int)else aa x.rst ↑(ah x.sp x.rst))))) x.hf) (dZ (bG (aa (if az x.sp (aa x.rst ↑(ah x.sp x.rst)) (0:Int)=true then aa (aa x.rst ↑(ah x.sp x.rst)) (1:Int)else aa x.rst ↑(ah x.sp x.rst)) ↑(aE (if az x.sp (aa x.rst ↑(ah x.sp x.rst)) (0:Int)=true then aa (aa x.rst ↑(ah x.sp x.rst)) (1:Int)else aa x.rst ↑(ah x.sp x.rst))))) x.fg) x.bare x.sp (eb (bG (aa (if az x.sp (aa x.rst ↑(ah x.sp x.rst)) (0:Int)=true then aa (aa x.rst ↑(ah x.sp x.rst)) (1:Int)else aa x.rst ↑(ah x.sp x.rst)) ↑(aE (if az x.sp (aa x.rst ↑(ah x.sp x.rst)) (0:Int)=true then aa (aa x.rst ↑(ah x.sp x.rst)) (1:Int)else aa x.rst ↑(ah x.sp x.rst))))))])))
def ID(k:PV→List PV→Prop)(sc us pw:Bs)(hk:Int)(hs:Bs)(hn:Int)(hp:List Int)(port:Int)(pn:Bool)(pl:List Bs)(hq:Bool)(q:Bs)(hf:Bool)(fg:Bs)(bare sp:Bool)(rst:Bs):Prop:=∀(x:RS),(RS.mk sc us pw hk hs hn hp port false pn pl hq q hf fg bare sp rst).ao=(x.path.tail,(0:Int))∧
 List.length x.rst≤(300000:Nat)∧
 x.pl.length≤(100000:Nat)→
 (List.length x.rst≤(300000:Nat)∧
 x.pl.length≤(100000:Nat))∧
 (aa x.rst ↑(aE x.rst)).length.le (300000:Nat)∧
 (List.length (bG (aa x.rst ↑(aE x.rst)))).le (300000:Nat)∧
 k (PV.int .i64 (0:Int)) [bT (PV.raw (Go.Value.pointer none)) 1 x.sc x.us x.pw x.hk x.hs x.hn x.hp x.port x.opq ((bo x.sp x.sc (ae x.rst ↑(aE x.rst)) (x.pn,x.pl)).1) ((bo x.sp x.sc (ae x.rst ↑(aE x.rst)) (x.pn,x.pl)).2) (dW (aa x.rst ↑(aE x.rst)) x.hq) (dX x.sp (aa x.rst ↑(aE x.rst)) x.q) (dY (bG (aa x.rst ↑(aE x.rst))) x.hf) (dZ (bG (aa x.rst ↑(aE x.rst))) x.fg) x.bare x.sp (eb (bG (aa x.rst ↑(aE x.rst))))]
theorem IE(sc us pw:Bs)(hk:Int)(hs:Bs)(hn:Int)(hp:List Int)(port:Int)(pn:Bool)(pl:List Bs)(hq:Bool)(q:Bs)(hf:Bool)(fg:Bs)(bare sp:Bool)(rst:Bs):ID (KT (RS.mk sc us pw hk hs hn hp port false pn pl hq q hf fg bare sp rst).ao) sc us pw hk hs hn hp port pn pl hq q hf fg bare sp rst:=fun x ⟨h1,h2,h3⟩=>by
 have hl:=cO x.rst (aE x.rst)
 have hq':=iJ (aa x.rst (aE x.rst))
 rw [h1]
 refine ⟨⟨h2,h3⟩,show(aa x.rst (aE x.rst)).length≤300000 by omega,show(bG (aa x.rst (aE x.rst))).length≤300000 by omega,rfl,?_⟩
 show _=[nR x.path.tail]
 rw [gT]
 rfl
set_option maxHeartbeats 4000000 in
theorem IF(sc us pw:Bs)(hk:Int)(hs:Bs)(hn:Int)(hp:List Int)(port:Int)(pn:Bool)(pl:List Bs)(hq:Bool)(q:Bs)(hf:Bool)(fg:Bs)(bare sp:Bool)(rst:Bs):As (KT (RS.mk sc us pw hk hs hn hp port false pn pl hq q hf fg bare sp rst).ao) sc us pw hk hs hn hp port pn pl hq q hf fg bare sp rst:=fun x ⟨h1,h2,h3⟩=>by
 have er:=DF x
 have e_sc:x.aX.1.sc=x.sc:=(by have h:=congrArg RS.sc er;exact h)
 have e_opq:x.aX.1.opq=x.opq:=(by have h:=congrArg RS.opq er;exact h)
 have e_pn:x.aX.1.pn=x.pn:=(by have h:=congrArg RS.pn er;exact h)
 have e_pl:x.aX.1.pl=x.pl:=(by have h:=congrArg RS.pl er;exact h)
 have e_hq:x.aX.1.hq=x.hq:=(by have h:=congrArg RS.hq er;exact h)
 have e_q:x.aX.1.q=x.q:=(by have h:=congrArg RS.q er;exact h)
 have e_hf:x.aX.1.hf=x.hf:=(by have h:=congrArg RS.hf er;exact h)
 have e_fg:x.aX.1.fg=x.fg:=(by have h:=congrArg RS.fg er;exact h)
 have e_bare:x.aX.1.bare=x.bare:=(by have h:=congrArg RS.bare er;exact h)
 have e_sp:x.aX.1.sp=x.sp:=(by have h:=congrArg RS.sp er;exact h)
 have e_rst:x.aX.1.rst=aa x.rst (ah x.sp x.rst):=(by have h:=congrArg RS.rst er;exact h)
 have hl:=cO x.rst (ah x.sp x.rst)
 have hl2:=iJ (aa x.rst (ah x.sp x.rst))
 have hs1:=mG x.sp (aa x.rst (ah x.sp x.rst))
 have pl1:∀R:Bs,R.length≤x.rst.length→(aa R (aE R)).length≤300000∧(bG (aa R (aE R))).length≤300000:=fun R hR=>by
  have a:=cO R (aE R)
  have b:=iJ (aa R (aE R))
  omega
 have ea:x.b7=if x.aX.2=0 then(if x.aX.1.sp=false∧bQ x.aX.1.rst=true then(x.aX.1.tail,0)else(x.aX.1.shl.path.tail,0))else x.aX:=rfl
 have fin:x.b7=(x.aX.1.shl.path.tail,0)→KT x.b7 (.int .i64 0) [nR {x with us:=x.aX.1.us,pw:=x.aX.1.pw,hk:=x.aX.1.hk,hs:=x.aX.1.hs,hn:=x.aX.1.hn,hp:=x.aX.1.hp,port:=x.aX.1.port,pn:=(bo x.sp x.sc (ae (if az x.sp (aa x.rst (ah x.sp x.rst)) 0=true then aa (aa x.rst (ah x.sp x.rst)) 1 else aa x.rst (ah x.sp x.rst)) (aE (if az x.sp (aa x.rst (ah x.sp x.rst)) 0=true then aa (aa x.rst (ah x.sp x.rst)) 1 else aa x.rst (ah x.sp x.rst)))) (x.pn,x.pl)).1,pl:=(bo x.sp x.sc (ae (if az x.sp (aa x.rst (ah x.sp x.rst)) 0=true then aa (aa x.rst (ah x.sp x.rst)) 1 else aa x.rst (ah x.sp x.rst)) (aE (if az x.sp (aa x.rst (ah x.sp x.rst)) 0=true then aa (aa x.rst (ah x.sp x.rst)) 1 else aa x.rst (ah x.sp x.rst)))) (x.pn,x.pl)).2,hq:=dW (aa (if az x.sp (aa x.rst (ah x.sp x.rst)) 0=true then aa (aa x.rst (ah x.sp x.rst)) 1 else aa x.rst (ah x.sp x.rst)) (aE (if az x.sp (aa x.rst (ah x.sp x.rst)) 0=true then aa (aa x.rst (ah x.sp x.rst)) 1 else aa x.rst (ah x.sp x.rst)))) x.hq,q:=dX x.sp (aa (if az x.sp (aa x.rst (ah x.sp x.rst)) 0=true then aa (aa x.rst (ah x.sp x.rst)) 1 else aa x.rst (ah x.sp x.rst)) (aE (if az x.sp (aa x.rst (ah x.sp x.rst)) 0=true then aa (aa x.rst (ah x.sp x.rst)) 1 else aa x.rst (ah x.sp x.rst)))) x.q,hf:=dY (bG (aa (if az x.sp (aa x.rst (ah x.sp x.rst)) 0=true then aa (aa x.rst (ah x.sp x.rst)) 1 else aa x.rst (ah x.sp x.rst)) (aE (if az x.sp (aa x.rst (ah x.sp x.rst)) 0=true then aa (aa x.rst (ah x.sp x.rst)) 1 else aa x.rst (ah x.sp x.rst))))) x.hf,fg:=dZ (bG (aa (if az x.sp (aa x.rst (ah x.sp x.rst)) 0=true then aa (aa x.rst (ah x.sp x.rst)) 1 else aa x.rst (ah x.sp x.rst)) (aE (if az x.sp (aa x.rst (ah x.sp x.rst)) 0=true then aa (aa x.rst (ah x.sp x.rst)) 1 else aa x.rst (ah x.sp x.rst))))) x.fg,rst:=eb (bG (aa (if az x.sp (aa x.rst (ah x.sp x.rst)) 0=true then aa (aa x.rst (ah x.sp x.rst)) 1 else aa x.rst (ah x.sp x.rst)) (aE (if az x.sp (aa x.rst (ah x.sp x.rst)) 0=true then aa (aa x.rst (ah x.sp x.rst)) 1 else aa x.rst (ah x.sp x.rst)))))}]:=fun h=>by
  rw [h]
  refine ⟨rfl,?_⟩
  show [nR _]=[nR x.aX.1.shl.path.tail]
  rw [gT]
  unfold RS.path RS.shl
  dsimp only
  simp only [e_sc,e_opq,e_pn,e_pl,e_hq,e_q,e_hf,e_fg,e_bare,e_sp,e_rst]
 rw [h1]
 refine ⟨show x.rst.length≤300000 from h2,fun hc=>?_,fun hc=>⟨fun hs=>⟨trivial,fun ht=>⟨show(aa x.rst (ah x.sp x.rst)).length≤300000 by omega,show(bG (aa x.rst (ah x.sp x.rst))).length≤300000 by omega,?_⟩,fun ht=>⟨trivial,⟨by omega,h3⟩,(pl1 _ (by omega)).1,(pl1 _ (by omega)).2,?_⟩⟩,fun hs=>⟨fun h=>(by cases h),fun _=>⟨trivial,⟨by omega,h3⟩,(pl1 _ (by omega)).1,(pl1 _ (by omega)).2,?_⟩⟩⟩⟩
 ·have hc':¬x.aX.2=0:=by simpa using hc
  rw [ea,if_neg hc']
  exact ⟨rfl,congrArg (fun r=>[nR r]) er.symm⟩
 ·have hc':x.aX.2=0:=by simpa using hc
  have hs':x.sp=false:=by simpa using hs
  rw [ea,if_pos hc',if_pos ⟨by rw [e_sp];exact hs',by rw [e_rst];exact ht⟩]
  refine ⟨rfl,?_⟩
  show _=[nR x.aX.1.tail]
  rw [gT]
  simp only [e_sc,e_opq,e_pn,e_pl,e_hq,e_q,e_hf,e_fg,e_bare,e_sp,e_rst]
  rfl
 ·have hc':x.aX.2=0:=by simpa using hc
  exact fin (by rw [ea,if_pos hc',if_neg (by rintro ⟨-,h⟩;rw [e_rst]at h;rw [ht]at h;cases h)])
 ·have hc':x.aX.2=0:=by simpa using hc
  have hs':x.sp=true:=by simpa using hs
  exact fin (by rw [ea,if_pos hc',if_neg (by rintro ⟨h,-⟩;rw [e_sp,hs']at h;cases h)])
def xX:cq:=bN [(75,j0),(76,nM),(77,gu),(78,cY),(79,fX),(80,jS),(81,lq),(82,gr),(88,hM),(89,ln),(84,fw),(90,my),(91,nH),(92,jh),(91,lr),(92,hO)]
def xY(sc us pw:Bs)(hk:Int)(hs:Bs)(hn:Int)(hp:List Int)(port:Int)(pn:Bool)(pl:List Bs)(hq:Bool)(q:Bs)(hf:Bool)(fg:Bs)(bare sp:Bool)(rst:Bs):aY:=fun i=>bif Nat.beq i 1000002 then some ⟨(RS),(fun s x=>(VS.mk s.loc s.env [(0,aC 1 (.raw (.pointer none)) (x.sc) (x.us) (x.pw) (x.hk) (x.hs) (x.hn) (x.hp) (x.port) (x.opq) (x.pn) (x.pl) (x.hq) (x.q) (x.hf) (x.fg) (x.bare) (x.sp) (x.rst))])),(fun s=>RS.mk (s.bx 0 [0,0]).dc (s.bx 0 [0,1]).dc (s.bx 0 [0,2]).dc (s.bx 0 [0,3,0]).asInt (s.bx 0 [0,3,1]).dc (s.bx 0 [0,3,2]).asInt (s.bx 0 [0,3,3]).mJ (s.bx 0 [0,4]).asInt (s.bx 0 [0,5]).asBool (s.bx 0 [0,6]).lB (s.bx 0 [0,6]).kI (s.bx 0 [0,7]).asBool (s.bx 0 [0,8]).dc (s.bx 0 [0,9]).asBool (s.bx 0 [0,10]).dc (s.bx 0 [2]).asBool (s.bx 0 [3]).asBool (s.bx 0 [4]).dc),(fun s x=>let r:=x;(RS.mk sc us pw hk hs hn hp port false pn pl hq q hf fg bare sp rst).ao=r.b7∧r.rst.length≤300000∧r.pl.length≤100000),(fun s x=>let r:=x;0),[]⟩else bif Nat.beq i 1000003 then some ⟨(RS),(fun s x=>(VS.mk s.loc s.env [(0,aC 1 (.raw (.pointer none)) (x.sc) (x.us) (x.pw) (x.hk) (x.hs) (x.hn) (x.hp) (x.port) (x.opq) (x.pn) (x.pl) (x.hq) (x.q) (x.hf) (x.fg) (x.bare) (x.sp) (x.rst))])),(fun s=>RS.mk (s.bx 0 [0,0]).dc (s.bx 0 [0,1]).dc (s.bx 0 [0,2]).dc (s.bx 0 [0,3,0]).asInt (s.bx 0 [0,3,1]).dc (s.bx 0 [0,3,2]).asInt (s.bx 0 [0,3,3]).mJ (s.bx 0 [0,4]).asInt (s.bx 0 [0,5]).asBool (s.bx 0 [0,6]).lB (s.bx 0 [0,6]).kI (s.bx 0 [0,7]).asBool (s.bx 0 [0,8]).dc (s.bx 0 [0,9]).asBool (s.bx 0 [0,10]).dc (s.bx 0 [2]).asBool (s.bx 0 [3]).asBool (s.bx 0 [4]).dc),(fun s x=>let r:=x;(RS.mk sc us pw hk hs hn hp port false pn pl hq q hf fg bare sp rst).ao=(r.path.tail,0)∧r.rst.length≤300000∧r.pl.length≤100000),(fun s x=>let r:=x;0),[]⟩else bif Nat.beq i 1000001 then some ⟨(RS),(fun s x=>(VS.mk [] [] [])),(fun s=>RS.mk (s.bx 0 [0,0]).dc (s.bx 0 [0,1]).dc (s.bx 0 [0,2]).dc (s.bx 0 [0,3,0]).asInt (s.bx 0 [0,3,1]).dc (s.bx 0 [0,3,2]).asInt (s.bx 0 [0,3,3]).mJ (s.bx 0 [0,4]).asInt (s.bx 0 [0,5]).asBool (s.bx 0 [0,6]).lB (s.bx 0 [0,6]).kI (s.bx 0 [0,7]).asBool (s.bx 0 [0,8]).dc (s.bx 0 [0,9]).asBool (s.bx 0 [0,10]).dc (s.bx 0 [2]).asBool (s.bx 0 [3]).asBool (s.bx 0 [4]).dc),(fun s x=>let r:=x;False),(fun s x=>let r:=x;0),[]⟩else none
theorem xZ:cS Tryz.prog ay xX:=ai ra (ai vp (ai gm (ai cG (ai ll (ai jT (ai rL (ai gj (ai nG (ai rI (ai iI (ai oD (ai ve (ai oQ (ai rM (ai nJ (ax))))))))))))))))
theorem DH(sc us pw:Bs)(hk:Int)(hs:Bs)(hn:Int)(hp:List Int)(port:Int)(pn:Bool)(pl:List Bs)(hq:Bool)(q:Bs)(hf:Bool)(fg:Bs)(bare sp:Bool)(rst:Bs)(k:PV→List PV→Prop):bK Tryz.prog xX ay (xY sc us pw hk hs hn hp port pn pl hq q hf fg bare sp rst) 1000 Tryz.f47 [.ptr 0 0] [aC 1 (.raw (.pointer none)) sc us pw hk hs hn hp port false pn pl hq q hf fg bare sp rst] k=(
 (List.length rst≤(300000:Nat)∧
 (ab rst rst (0:Nat)).2.2=true)∧
 ((!decide ((0:Int)=(0:Int)))=true→
 k (PV.int .i64 (0:Int)) [bT (PV.raw (Go.Value.pointer none)) 1 ((ab rst rst (0:Nat)).1) us pw hk hs hn hp port false pn pl hq q hf fg false (aw (ab rst rst (0:Nat)).1) ((ab rst rst (0:Nat)).2.1)])∧
 ((!decide ((0:Int)=(0:Int)))=false→
 (false=true→
 (List.length (ab rst rst (0:Nat)).2.1).le (300000:Nat)∧
 (List.length (bG (ab rst rst (0:Nat)).2.1)).le (300000:Nat)∧
 k (PV.int .i64 (0:Int)) [bT (PV.raw (Go.Value.pointer none)) 1 ((ab rst rst (0:Nat)).1) us pw hk hs hn hp port false pn pl (dW (ab rst rst (0:Nat)).2.1 hq) (dX (aw (ab rst rst (0:Nat)).1) (ab rst rst (0:Nat)).2.1 q) (dY (bG (ab rst rst (0:Nat)).2.1) hf) (dZ (bG (ab rst rst (0:Nat)).2.1) fg) false (aw (ab rst rst (0:Nat)).1) (eb (bG (ab rst rst (0:Nat)).2.1))])∧
 (false=false→
 (decide ((ab rst rst (0:Nat)).1=(ByteArray.mk #[102,105,108,101]).data.toList)=true→
 (List.length (ab rst rst (0:Nat)).2.1≤(300000:Nat)∧
 pl.length≤(100000:Nat))∧
 ((!decide ((RS.mk (ab rst rst (0:Nat)).1 us pw hk hs hn hp port false pn pl hq q hf fg false (aw (ab rst rst (0:Nat)).1) (ab rst rst (0:Nat)).2.1).bb.2=(0:Int)))=true→
 k (PV.int .i64 (RS.mk (ab rst rst (0:Nat)).1 us pw hk hs hn hp port false pn pl hq q hf fg false (aw (ab rst rst (0:Nat)).1) (ab rst rst (0:Nat)).2.1).bb.2) [bT (PV.raw (Go.Value.pointer none)) 1 ((ab rst rst (0:Nat)).1) us pw ((RS.mk (ab rst rst (0:Nat)).1 us pw hk hs hn hp port false pn pl hq q hf fg false (aw (ab rst rst (0:Nat)).1) (ab rst rst (0:Nat)).2.1).bb.1.hk) ((RS.mk (ab rst rst (0:Nat)).1 us pw hk hs hn hp port false pn pl hq q hf fg false (aw (ab rst rst (0:Nat)).1) (ab rst rst (0:Nat)).2.1).bb.1.hs) ((RS.mk (ab rst rst (0:Nat)).1 us pw hk hs hn hp port false pn pl hq q hf fg false (aw (ab rst rst (0:Nat)).1) (ab rst rst (0:Nat)).2.1).bb.1.hn) ((RS.mk (ab rst rst (0:Nat)).1 us pw hk hs hn hp port false pn pl hq q hf fg false (aw (ab rst rst (0:Nat)).1) (ab rst rst (0:Nat)).2.1).bb.1.hp) port false ((RS.mk (ab rst rst (0:Nat)).1 us pw hk hs hn hp port false pn pl hq q hf fg false (aw (ab rst rst (0:Nat)).1) (ab rst rst (0:Nat)).2.1).bb.1.pn) ((RS.mk (ab rst rst (0:Nat)).1 us pw hk hs hn hp port false pn pl hq q hf fg false (aw (ab rst rst (0:Nat)).1) (ab rst rst (0:Nat)).2.1).bb.1.pl) hq q hf fg false (aw (ab rst rst (0:Nat)).1) ((RS.mk (ab rst rst (0:Nat)).1 us pw hk hs hn hp port false pn pl hq q hf fg false (aw (ab rst rst (0:Nat)).1) (ab rst rst (0:Nat)).2.1).bb.1.rst)])∧
 ((!decide ((RS.mk (ab rst rst (0:Nat)).1 us pw hk hs hn hp port false pn pl hq q hf fg false (aw (ab rst rst (0:Nat)).1) (ab rst rst (0:Nat)).2.1).bb.2=(0:Int)))=false→
 (List.length (RS.mk (ab rst rst (0:Nat)).1 us pw hk hs hn hp port false pn pl hq q hf fg false (aw (ab rst rst (0:Nat)).1) (ab rst rst (0:Nat)).2.1).bb.1.rst).le (300000:Nat)∧
 (List.length (bG (RS.mk (ab rst rst (0:Nat)).1 us pw hk hs hn hp port false pn pl hq q hf fg false (aw (ab rst rst (0:Nat)).1) (ab rst rst (0:Nat)).2.1).bb.1.rst)).le (300000:Nat)∧
 k (PV.int .i64 (0:Int)) [bT (PV.raw (Go.Value.pointer none)) 1 ((ab rst rst (0:Nat)).1) us pw ((RS.mk (ab rst rst (0:Nat)).1 us pw hk hs hn hp port false pn pl hq q hf fg false (aw (ab rst rst (0:Nat)).1) (ab rst rst (0:Nat)).2.1).bb.1.hk) ((RS.mk (ab rst rst (0:Nat)).1 us pw hk hs hn hp port false pn pl hq q hf fg false (aw (ab rst rst (0:Nat)).1) (ab rst rst (0:Nat)).2.1).bb.1.hs) ((RS.mk (ab rst rst (0:Nat)).1 us pw hk hs hn hp port false pn pl hq q hf fg false (aw (ab rst rst (0:Nat)).1) (ab rst rst (0:Nat)).2.1).bb.1.hn) ((RS.mk (ab rst rst (0:Nat)).1 us pw hk hs hn hp port false pn pl hq q hf fg false (aw (ab rst rst (0:Nat)).1) (ab rst rst (0:Nat)).2.1).bb.1.hp) port false ((RS.mk (ab rst rst (0:Nat)).1 us pw hk hs hn hp port false pn pl hq q hf fg false (aw (ab rst rst (0:Nat)).1) (ab rst rst (0:Nat)).2.1).bb.1.pn) ((RS.mk (ab rst rst (0:Nat)).1 us pw hk hs hn hp port false pn pl hq q hf fg false (aw (ab rst rst (0:Nat)).1) (ab rst rst (0:Nat)).2.1).bb.1.pl) (dW (RS.mk (ab rst rst (0:Nat)).1 us pw hk hs hn hp port false pn pl hq q hf fg false (aw (ab rst rst (0:Nat)).1) (ab rst rst (0:Nat)).2.1).bb.1.rst hq) (dX (aw (ab rst rst (0:Nat)).1) (RS.mk (ab rst rst (0:Nat)).1 us pw hk hs hn hp port false pn pl hq q hf fg false (aw (ab rst rst (0:Nat)).1) (ab rst rst (0:Nat)).2.1).bb.1.rst q) (dY (bG (RS.mk (ab rst rst (0:Nat)).1 us pw hk hs hn hp port false pn pl hq q hf fg false (aw (ab rst rst (0:Nat)).1) (ab rst rst (0:Nat)).2.1).bb.1.rst) hf) (dZ (bG (RS.mk (ab rst rst (0:Nat)).1 us pw hk hs hn hp port false pn pl hq q hf fg false (aw (ab rst rst (0:Nat)).1) (ab rst rst (0:Nat)).2.1).bb.1.rst) fg) false (aw (ab rst rst (0:Nat)).1) (eb (bG (RS.mk (ab rst rst (0:Nat)).1 us pw hk hs hn hp port false pn pl hq q hf fg false (aw (ab rst rst (0:Nat)).1) (ab rst rst (0:Nat)).2.1).bb.1.rst))]))∧
 (decide ((ab rst rst (0:Nat)).1=(ByteArray.mk #[102,105,108,101]).data.toList)=false→
 (false=false→
 (aw (ab rst rst (0:Nat)).1=true→
 True∧
 (false=false→
 false=true→
 True)∧
 (false=true→
 VS.mk [] [(0,PV.ptr (0:Nat) (0:Nat)),(2,PV.int .i64 (0:Int)),(3,PV.int .i64 (0:Int)),(6,PV.bool !decide ((0:Int)=(0:Int))),(10,PV.bool false),(16,PV.bool (decide ((ab rst rst (0:Nat)).1=(ByteArray.mk #[102,105,108,101]).data.toList))),(26,PV.undef),(28,PV.bool false),(51,PV.undef),(58,PV.undef),(61,PV.undef),(71,PV.undef),(77,PV.undef),(81,PV.undef),(87,PV.undef),(97,PV.undef)] [((0:Nat),bT (PV.raw (Go.Value.pointer none)) 1 ((ab rst rst (0:Nat)).1) us pw hk hs hn hp port false pn pl hq q hf fg false (aw (ab rst rst (0:Nat)).1) ((ab rst rst (0:Nat)).2.1))]=VS.mk [] [] []∧
 False∧
 ∀(x:RS),False→
 False)∧
 (false=false→
 (aw (ab rst rst (0:Nat)).1=true→
 (List.length (ab rst rst (0:Nat)).2.1).le (300000:Nat)∧
 VS.mk [] [(0,PV.ptr (0:Nat) (0:Nat)),(2,PV.int .i64 (0:Int)),(3,PV.int .i64 (0:Int)),(6,PV.bool !decide ((0:Int)=(0:Int))),(10,PV.bool false),(16,PV.bool (decide ((ab rst rst (0:Nat)).1=(ByteArray.mk #[102,105,108,101]).data.toList))),(26,PV.undef),(28,PV.bool false),(51,PV.bool (aw (ab rst rst (0:Nat)).1)),(58,PV.undef),(61,PV.undef),(71,PV.undef),(77,PV.undef),(81,PV.undef),(87,PV.undef),(97,PV.undef)] [((0:Nat),bT (PV.raw (Go.Value.pointer none)) 1 ((ab rst rst (0:Nat)).1) us pw hk hs hn hp port false pn pl hq q hf fg false (aw (ab rst rst (0:Nat)).1) (aB (List.length (ab rst rst (0:Nat)).2.1) (aw (ab rst rst (0:Nat)).1) (0:Int) (ab rst rst (0:Nat)).2.1))]=VS.mk [] [(0,PV.ptr (0:Nat) (0:Nat)),(2,PV.int .i64 (0:Int)),(3,PV.int .i64 (0:Int)),(6,PV.bool !decide ((0:Int)=(0:Int))),(10,PV.bool false),(16,PV.bool (decide ((ab rst rst (0:Nat)).1=(ByteArray.mk #[102,105,108,101]).data.toList))),(26,PV.undef),(28,PV.bool false),(51,PV.bool (aw (ab rst rst (0:Nat)).1)),(58,PV.undef),(61,PV.undef),(71,PV.undef),(77,PV.undef),(81,PV.undef),(87,PV.undef),(97,PV.undef)] [((0:Nat),bT (PV.raw (Go.Value.pointer none)) 1 ((RS.mk (ab rst rst (0:Nat)).1 us pw hk hs hn hp port false pn pl hq q hf fg false (aw (ab rst rst (0:Nat)).1) (aB (List.length (ab rst rst (0:Nat)).2.1) (aw (ab rst rst (0:Nat)).1) (0:Int) (ab rst rst (0:Nat)).2.1)).sc) ((RS.mk (ab rst rst (0:Nat)).1 us pw hk hs hn hp port false pn pl hq q hf fg false (aw (ab rst rst (0:Nat)).1) (aB (List.length (ab rst rst (0:Nat)).2.1) (aw (ab rst rst (0:Nat)).1) (0:Int) (ab rst rst (0:Nat)).2.1)).us) ((RS.mk (ab rst rst (0:Nat)).1 us pw hk hs hn hp port false pn pl hq q hf fg false (aw (ab rst rst (0:Nat)).1) (aB (List.length (ab rst rst (0:Nat)).2.1) (aw (ab rst rst (0:Nat)).1) (0:Int) (ab rst rst (0:Nat)).2.1)).pw) ((RS.mk (ab rst rst (0:Nat)).1 us pw hk hs hn hp port false pn pl hq q hf fg false (aw (ab rst rst (0:Nat)).1) (aB (List.length (ab rst rst (0:Nat)).2.1) (aw (ab rst rst (0:Nat)).1) (0:Int) (ab rst rst (0:Nat)).2.1)).hk) ((RS.mk (ab rst rst (0:Nat)).1 us pw hk hs hn hp port false pn pl hq q hf fg false (aw (ab rst rst (0:Nat)).1) (aB (List.length (ab rst rst (0:Nat)).2.1) (aw (ab rst rst (0:Nat)).1) (0:Int) (ab rst rst (0:Nat)).2.1)).hs) ((RS.mk (ab rst rst (0:Nat)).1 us pw hk hs hn hp port false pn pl hq q hf fg false (aw (ab rst rst (0:Nat)).1) (aB (List.length (ab rst rst (0:Nat)).2.1) (aw (ab rst rst (0:Nat)).1) (0:Int) (ab rst rst (0:Nat)).2.1)).hn) ((RS.mk (ab rst rst (0:Nat)).1 us pw hk hs hn hp port false pn pl hq q hf fg false (aw (ab rst rst (0:Nat)).1) (aB (List.length (ab rst rst (0:Nat)).2.1) (aw (ab rst rst (0:Nat)).1) (0:Int) (ab rst rst (0:Nat)).2.1)).hp) ((RS.mk (ab rst rst (0:Nat)).1 us pw hk hs hn hp port false pn pl hq q hf fg false (aw (ab rst rst (0:Nat)).1) (aB (List.length (ab rst rst (0:Nat)).2.1) (aw (ab rst rst (0:Nat)).1) (0:Int) (ab rst rst (0:Nat)).2.1)).port) ((RS.mk (ab rst rst (0:Nat)).1 us pw hk hs hn hp port false pn pl hq q hf fg false (aw (ab rst rst (0:Nat)).1) (aB (List.length (ab rst rst (0:Nat)).2.1) (aw (ab rst rst (0:Nat)).1) (0:Int) (ab rst rst (0:Nat)).2.1)).opq) ((RS.mk (ab rst rst (0:Nat)).1 us pw hk hs hn hp port false pn pl hq q hf fg false (aw (ab rst rst (0:Nat)).1) (aB (List.length (ab rst rst (0:Nat)).2.1) (aw (ab rst rst (0:Nat)).1) (0:Int) (ab rst rst (0:Nat)).2.1)).pn) ((RS.mk (ab rst rst (0:Nat)).1 us pw hk hs hn hp port false pn pl hq q hf fg false (aw (ab rst rst (0:Nat)).1) (aB (List.length (ab rst rst (0:Nat)).2.1) (aw (ab rst rst (0:Nat)).1) (0:Int) (ab rst rst (0:Nat)).2.1)).pl) ((RS.mk (ab rst rst (0:Nat)).1 us pw hk hs hn hp port false pn pl hq q hf fg false (aw (ab rst rst (0:Nat)).1) (aB (List.length (ab rst rst (0:Nat)).2.1) (aw (ab rst rst (0:Nat)).1) (0:Int) (ab rst rst (0:Nat)).2.1)).hq) ((RS.mk (ab rst rst (0:Nat)).1 us pw hk hs hn hp port false pn pl hq q hf fg false (aw (ab rst rst (0:Nat)).1) (aB (List.length (ab rst rst (0:Nat)).2.1) (aw (ab rst rst (0:Nat)).1) (0:Int) (ab rst rst (0:Nat)).2.1)).q) ((RS.mk (ab rst rst (0:Nat)).1 us pw hk hs hn hp port false pn pl hq q hf fg false (aw (ab rst rst (0:Nat)).1) (aB (List.length (ab rst rst (0:Nat)).2.1) (aw (ab rst rst (0:Nat)).1) (0:Int) (ab rst rst (0:Nat)).2.1)).hf) ((RS.mk (ab rst rst (0:Nat)).1 us pw hk hs hn hp port false pn pl hq q hf fg false (aw (ab rst rst (0:Nat)).1) (aB (List.length (ab rst rst (0:Nat)).2.1) (aw (ab rst rst (0:Nat)).1) (0:Int) (ab rst rst (0:Nat)).2.1)).fg) ((RS.mk (ab rst rst (0:Nat)).1 us pw hk hs hn hp port false pn pl hq q hf fg false (aw (ab rst rst (0:Nat)).1) (aB (List.length (ab rst rst (0:Nat)).2.1) (aw (ab rst rst (0:Nat)).1) (0:Int) (ab rst rst (0:Nat)).2.1)).bare) ((RS.mk (ab rst rst (0:Nat)).1 us pw hk hs hn hp port false pn pl hq q hf fg false (aw (ab rst rst (0:Nat)).1) (aB (List.length (ab rst rst (0:Nat)).2.1) (aw (ab rst rst (0:Nat)).1) (0:Int) (ab rst rst (0:Nat)).2.1)).sp) ((RS.mk (ab rst rst (0:Nat)).1 us pw hk hs hn hp port false pn pl hq q hf fg false (aw (ab rst rst (0:Nat)).1) (aB (List.length (ab rst rst (0:Nat)).2.1) (aw (ab rst rst (0:Nat)).1) (0:Int) (ab rst rst (0:Nat)).2.1)).rst))]∧
 ((RS.mk sc us pw hk hs hn hp port false pn pl hq q hf fg bare sp rst).ao=(RS.mk (ab rst rst (0:Nat)).1 us pw hk hs hn hp port false pn pl hq q hf fg false (aw (ab rst rst (0:Nat)).1) (aB (List.length (ab rst rst (0:Nat)).2.1) (aw (ab rst rst (0:Nat)).1) (0:Int) (ab rst rst (0:Nat)).2.1)).b7∧
 List.length (RS.mk (ab rst rst (0:Nat)).1 us pw hk hs hn hp port false pn pl hq q hf fg false (aw (ab rst rst (0:Nat)).1) (aB (List.length (ab rst rst (0:Nat)).2.1) (aw (ab rst rst (0:Nat)).1) (0:Int) (ab rst rst (0:Nat)).2.1)).rst≤(300000:Nat)∧
 (RS.mk (ab rst rst (0:Nat)).1 us pw hk hs hn hp port false pn pl hq q hf fg false (aw (ab rst rst (0:Nat)).1) (aB (List.length (ab rst rst (0:Nat)).2.1) (aw (ab rst rst (0:Nat)).1) (0:Int) (ab rst rst (0:Nat)).2.1)).pl.length≤(100000:Nat))∧
 As k sc us pw hk hs hn hp port pn pl hq q hf fg bare sp rst)∧
 (aw (ab rst rst (0:Nat)).1=false→
 True∧
 ((aj (ab rst rst (0:Nat)).2.1 (ByteArray.mk #[47,47]).data.toList).2=true→
 VS.mk [] [(0,PV.ptr (0:Nat) (0:Nat)),(2,PV.int .i64 (0:Int)),(3,PV.int .i64 (0:Int)),(6,PV.bool !decide ((0:Int)=(0:Int))),(10,PV.bool false),(16,PV.bool (decide ((ab rst rst (0:Nat)).1=(ByteArray.mk #[102,105,108,101]).data.toList))),(26,PV.undef),(28,PV.bool false),(51,PV.bool (aw (ab rst rst (0:Nat)).1)),(58,PV.bool (aj (ab rst rst (0:Nat)).2.1 (ByteArray.mk #[47,47]).data.toList).2),(61,PV.undef),(71,PV.undef),(77,PV.undef),(81,PV.undef),(87,PV.undef),(97,PV.undef)] [((0:Nat),bT (PV.raw (Go.Value.pointer none)) 1 ((ab rst rst (0:Nat)).1) us pw hk hs hn hp port false pn pl hq q hf fg false (aw (ab rst rst (0:Nat)).1) ((aj (ab rst rst (0:Nat)).2.1 (ByteArray.mk #[47,47]).data.toList).1))]=VS.mk [] [(0,PV.ptr (0:Nat) (0:Nat)),(2,PV.int .i64 (0:Int)),(3,PV.int .i64 (0:Int)),(6,PV.bool !decide ((0:Int)=(0:Int))),(10,PV.bool false),(16,PV.bool (decide ((ab rst rst (0:Nat)).1=(ByteArray.mk #[102,105,108,101]).data.toList))),(26,PV.undef),(28,PV.bool false),(51,PV.bool (aw (ab rst rst (0:Nat)).1)),(58,PV.bool (aj (ab rst rst (0:Nat)).2.1 (ByteArray.mk #[47,47]).data.toList).2),(61,PV.undef),(71,PV.undef),(77,PV.undef),(81,PV.undef),(87,PV.undef),(97,PV.undef)] [((0:Nat),bT (PV.raw (Go.Value.pointer none)) 1 ((RS.mk (ab rst rst (0:Nat)).1 us pw hk hs hn hp port false pn pl hq q hf fg false (aw (ab rst rst (0:Nat)).1) (aj (ab rst rst (0:Nat)).2.1 (ByteArray.mk #[47,47]).data.toList).1).sc) ((RS.mk (ab rst rst (0:Nat)).1 us pw hk hs hn hp port false pn pl hq q hf fg false (aw (ab rst rst (0:Nat)).1) (aj (ab rst rst (0:Nat)).2.1 (ByteArray.mk #[47,47]).data.toList).1).us) ((RS.mk (ab rst rst (0:Nat)).1 us pw hk hs hn hp port false pn pl hq q hf fg false (aw (ab rst rst (0:Nat)).1) (aj (ab rst rst (0:Nat)).2.1 (ByteArray.mk #[47,47]).data.toList).1).pw) ((RS.mk (ab rst rst (0:Nat)).1 us pw hk hs hn hp port false pn pl hq q hf fg false (aw (ab rst rst (0:Nat)).1) (aj (ab rst rst (0:Nat)).2.1 (ByteArray.mk #[47,47]).data.toList).1).hk) ((RS.mk (ab rst rst (0:Nat)).1 us pw hk hs hn hp port false pn pl hq q hf fg false (aw (ab rst rst (0:Nat)).1) (aj (ab rst rst (0:Nat)).2.1 (ByteArray.mk #[47,47]).data.toList).1).hs) ((RS.mk (ab rst rst (0:Nat)).1 us pw hk hs hn hp port false pn pl hq q hf fg false (aw (ab rst rst (0:Nat)).1) (aj (ab rst rst (0:Nat)).2.1 (ByteArray.mk #[47,47]).data.toList).1).hn) ((RS.mk (ab rst rst (0:Nat)).1 us pw hk hs hn hp port false pn pl hq q hf fg false (aw (ab rst rst (0:Nat)).1) (aj (ab rst rst (0:Nat)).2.1 (ByteArray.mk #[47,47]).data.toList).1).hp) ((RS.mk (ab rst rst (0:Nat)).1 us pw hk hs hn hp port false pn pl hq q hf fg false (aw (ab rst rst (0:Nat)).1) (aj (ab rst rst (0:Nat)).2.1 (ByteArray.mk #[47,47]).data.toList).1).port) ((RS.mk (ab rst rst (0:Nat)).1 us pw hk hs hn hp port false pn pl hq q hf fg false (aw (ab rst rst (0:Nat)).1) (aj (ab rst rst (0:Nat)).2.1 (ByteArray.mk #[47,47]).data.toList).1).opq) ((RS.mk (ab rst rst (0:Nat)).1 us pw hk hs hn hp port false pn pl hq q hf fg false (aw (ab rst rst (0:Nat)).1) (aj (ab rst rst (0:Nat)).2.1 (ByteArray.mk #[47,47]).data.toList).1).pn) ((RS.mk (ab rst rst (0:Nat)).1 us pw hk hs hn hp port false pn pl hq q hf fg false (aw (ab rst rst (0:Nat)).1) (aj (ab rst rst (0:Nat)).2.1 (ByteArray.mk #[47,47]).data.toList).1).pl) ((RS.mk (ab rst rst (0:Nat)).1 us pw hk hs hn hp port false pn pl hq q hf fg false (aw (ab rst rst (0:Nat)).1) (aj (ab rst rst (0:Nat)).2.1 (ByteArray.mk #[47,47]).data.toList).1).hq) ((RS.mk (ab rst rst (0:Nat)).1 us pw hk hs hn hp port false pn pl hq q hf fg false (aw (ab rst rst (0:Nat)).1) (aj (ab rst rst (0:Nat)).2.1 (ByteArray.mk #[47,47]).data.toList).1).q) ((RS.mk (ab rst rst (0:Nat)).1 us pw hk hs hn hp port false pn pl hq q hf fg false (aw (ab rst rst (0:Nat)).1) (aj (ab rst rst (0:Nat)).2.1 (ByteArray.mk #[47,47]).data.toList).1).hf) ((RS.mk (ab rst rst (0:Nat)).1 us pw hk hs hn hp port false pn pl hq q hf fg false (aw (ab rst rst (0:Nat)).1) (aj (ab rst rst (0:Nat)).2.1 (ByteArray.mk #[47,47]).data.toList).1).fg) ((RS.mk (ab rst rst (0:Nat)).1 us pw hk hs hn hp port false pn pl hq q hf fg false (aw (ab rst rst (0:Nat)).1) (aj (ab rst rst (0:Nat)).2.1 (ByteArray.mk #[47,47]).data.toList).1).bare) ((RS.mk (ab rst rst (0:Nat)).1 us pw hk hs hn hp port false pn pl hq q hf fg false (aw (ab rst rst (0:Nat)).1) (aj (ab rst rst (0:Nat)).2.1 (ByteArray.mk #[47,47]).data.toList).1).sp) ((RS.mk (ab rst rst (0:Nat)).1 us pw hk hs hn hp port false pn pl hq q hf fg false (aw (ab rst rst (0:Nat)).1) (aj (ab rst rst (0:Nat)).2.1 (ByteArray.mk #[47,47]).data.toList).1).rst))]∧
 ((RS.mk sc us pw hk hs hn hp port false pn pl hq q hf fg bare sp rst).ao=(RS.mk (ab rst rst (0:Nat)).1 us pw hk hs hn hp port false pn pl hq q hf fg false (aw (ab rst rst (0:Nat)).1) (aj (ab rst rst (0:Nat)).2.1 (ByteArray.mk #[47,47]).data.toList).1).b7∧
 List.length (RS.mk (ab rst rst (0:Nat)).1 us pw hk hs hn hp port false pn pl hq q hf fg false (aw (ab rst rst (0:Nat)).1) (aj (ab rst rst (0:Nat)).2.1 (ByteArray.mk #[47,47]).data.toList).1).rst≤(300000:Nat)∧
 (RS.mk (ab rst rst (0:Nat)).1 us pw hk hs hn hp port false pn pl hq q hf fg false (aw (ab rst rst (0:Nat)).1) (aj (ab rst rst (0:Nat)).2.1 (ByteArray.mk #[47,47]).data.toList).1).pl.length≤(100000:Nat))∧
 As k sc us pw hk hs hn hp port pn pl hq q hf fg bare sp rst)∧
 ((aj (ab rst rst (0:Nat)).2.1 (ByteArray.mk #[47,47]).data.toList).2=false→
 True∧
 ((aj (aj (ab rst rst (0:Nat)).2.1 (ByteArray.mk #[47,47]).data.toList).1 (ByteArray.mk #[47]).data.toList).2=true→
 VS.mk [] [(0,PV.ptr (0:Nat) (0:Nat)),(2,PV.int .i64 (0:Int)),(3,PV.int .i64 (0:Int)),(6,PV.bool !decide ((0:Int)=(0:Int))),(10,PV.bool false),(16,PV.bool (decide ((ab rst rst (0:Nat)).1=(ByteArray.mk #[102,105,108,101]).data.toList))),(26,PV.undef),(28,PV.bool false),(51,PV.bool (aw (ab rst rst (0:Nat)).1)),(58,PV.bool (aj (ab rst rst (0:Nat)).2.1 (ByteArray.mk #[47,47]).data.toList).2),(61,PV.bool (aj (aj (ab rst rst (0:Nat)).2.1 (ByteArray.mk #[47,47]).data.toList).1 (ByteArray.mk #[47]).data.toList).2),(71,PV.undef),(77,PV.undef),(81,PV.undef),(87,PV.undef),(97,PV.undef)] [((0:Nat),bT (PV.raw (Go.Value.pointer none)) 1 ((ab rst rst (0:Nat)).1) us pw hk hs hn hp port false pn pl hq q hf fg false (aw (ab rst rst (0:Nat)).1) ((aj (aj (ab rst rst (0:Nat)).2.1 (ByteArray.mk #[47,47]).data.toList).1 (ByteArray.mk #[47]).data.toList).1))]=VS.mk [] [(0,PV.ptr (0:Nat) (0:Nat)),(2,PV.int .i64 (0:Int)),(3,PV.int .i64 (0:Int)),(6,PV.bool !decide ((0:Int)=(0:Int))),(10,PV.bool false),(16,PV.bool (decide ((ab rst rst (0:Nat)).1=(ByteArray.mk #[102,105,108,101]).data.toList))),(26,PV.undef),(28,PV.bool false),(51,PV.bool (aw (ab rst rst (0:Nat)).1)),(58,PV.bool (aj (ab rst rst (0:Nat)).2.1 (ByteArray.mk #[47,47]).data.toList).2),(61,PV.bool (aj (aj (ab rst rst (0:Nat)).2.1 (ByteArray.mk #[47,47]).data.toList).1 (ByteArray.mk #[47]).data.toList).2),(71,PV.undef),(77,PV.undef),(81,PV.undef),(87,PV.undef),(97,PV.undef)] [((0:Nat),bT (PV.raw (Go.Value.pointer none)) 1 ((RS.mk (ab rst rst (0:Nat)).1 us pw hk hs hn hp port false pn pl hq q hf fg false (aw (ab rst rst (0:Nat)).1) (aj (aj (ab rst rst (0:Nat)).2.1 (ByteArray.mk #[47,47]).data.toList).1 (ByteArray.mk #[47]).data.toList).1).sc) ((RS.mk (ab rst rst (0:Nat)).1 us pw hk hs hn hp port false pn pl hq q hf fg false (aw (ab rst rst (0:Nat)).1) (aj (aj (ab rst rst (0:Nat)).2.1 (ByteArray.mk #[47,47]).data.toList).1 (ByteArray.mk #[47]).data.toList).1).us) ((RS.mk (ab rst rst (0:Nat)).1 us pw hk hs hn hp port false pn pl hq q hf fg false (aw (ab rst rst (0:Nat)).1) (aj (aj (ab rst rst (0:Nat)).2.1 (ByteArray.mk #[47,47]).data.toList).1 (ByteArray.mk #[47]).data.toList).1).pw) ((RS.mk (ab rst rst (0:Nat)).1 us pw hk hs hn hp port false pn pl hq q hf fg false (aw (ab rst rst (0:Nat)).1) (aj (aj (ab rst rst (0:Nat)).2.1 (ByteArray.mk #[47,47]).data.toList).1 (ByteArray.mk #[47]).data.toList).1).hk) ((RS.mk (ab rst rst (0:Nat)).1 us pw hk hs hn hp port false pn pl hq q hf fg false (aw (ab rst rst (0:Nat)).1) (aj (aj (ab rst rst (0:Nat)).2.1 (ByteArray.mk #[47,47]).data.toList).1 (ByteArray.mk #[47]).data.toList).1).hs) ((RS.mk (ab rst rst (0:Nat)).1 us pw hk hs hn hp port false pn pl hq q hf fg false (aw (ab rst rst (0:Nat)).1) (aj (aj (ab rst rst (0:Nat)).2.1 (ByteArray.mk #[47,47]).data.toList).1 (ByteArray.mk #[47]).data.toList).1).hn) ((RS.mk (ab rst rst (0:Nat)).1 us pw hk hs hn hp port false pn pl hq q hf fg false (aw (ab rst rst (0:Nat)).1) (aj (aj (ab rst rst (0:Nat)).2.1 (ByteArray.mk #[47,47]).data.toList).1 (ByteArray.mk #[47]).data.toList).1).hp) ((RS.mk (ab rst rst (0:Nat)).1 us pw hk hs hn hp port false pn pl hq q hf fg false (aw (ab rst rst (0:Nat)).1) (aj (aj (ab rst rst (0:Nat)).2.1 (ByteArray.mk #[47,47]).data.toList).1 (ByteArray.mk #[47]).data.toList).1).port) ((RS.mk (ab rst rst (0:Nat)).1 us pw hk hs hn hp port false pn pl hq q hf fg false (aw (ab rst rst (0:Nat)).1) (aj (aj (ab rst rst (0:Nat)).2.1 (ByteArray.mk #[47,47]).data.toList).1 (ByteArray.mk #[47]).data.toList).1).opq) ((RS.mk (ab rst rst (0:Nat)).1 us pw hk hs hn hp port false pn pl hq q hf fg false (aw (ab rst rst (0:Nat)).1) (aj (aj (ab rst rst (0:Nat)).2.1 (ByteArray.mk #[47,47]).data.toList).1 (ByteArray.mk #[47]).data.toList).1).pn) ((RS.mk (ab rst rst (0:Nat)).1 us pw hk hs hn hp port false pn pl hq q hf fg false (aw (ab rst rst (0:Nat)).1) (aj (aj (ab rst rst (0:Nat)).2.1 (ByteArray.mk #[47,47]).data.toList).1 (ByteArray.mk #[47]).data.toList).1).pl) ((RS.mk (ab rst rst (0:Nat)).1 us pw hk hs hn hp port false pn pl hq q hf fg false (aw (ab rst rst (0:Nat)).1) (aj (aj (ab rst rst (0:Nat)).2.1 (ByteArray.mk #[47,47]).data.toList).1 (ByteArray.mk #[47]).data.toList).1).hq) ((RS.mk (ab rst rst (0:Nat)).1 us pw hk hs hn hp port false pn pl hq q hf fg false (aw (ab rst rst (0:Nat)).1) (aj (aj (ab rst rst (0:Nat)).2.1 (ByteArray.mk #[47,47]).data.toList).1 (ByteArray.mk #[47]).data.toList).1).q) ((RS.mk (ab rst rst (0:Nat)).1 us pw hk hs hn hp port false pn pl hq q hf fg false (aw (ab rst rst (0:Nat)).1) (aj (aj (ab rst rst (0:Nat)).2.1 (ByteArray.mk #[47,47]).data.toList).1 (ByteArray.mk #[47]).data.toList).1).hf) ((RS.mk (ab rst rst (0:Nat)).1 us pw hk hs hn hp port false pn pl hq q hf fg false (aw (ab rst rst (0:Nat)).1) (aj (aj (ab rst rst (0:Nat)).2.1 (ByteArray.mk #[47,47]).data.toList).1 (ByteArray.mk #[47]).data.toList).1).fg) ((RS.mk (ab rst rst (0:Nat)).1 us pw hk hs hn hp port false pn pl hq q hf fg false (aw (ab rst rst (0:Nat)).1) (aj (aj (ab rst rst (0:Nat)).2.1 (ByteArray.mk #[47,47]).data.toList).1 (ByteArray.mk #[47]).data.toList).1).bare) ((RS.mk (ab rst rst (0:Nat)).1 us pw hk hs hn hp port false pn pl hq q hf fg false (aw (ab rst rst (0:Nat)).1) (aj (aj (ab rst rst (0:Nat)).2.1 (ByteArray.mk #[47,47]).data.toList).1 (ByteArray.mk #[47]).data.toList).1).sp) ((RS.mk (ab rst rst (0:Nat)).1 us pw hk hs hn hp port false pn pl hq q hf fg false (aw (ab rst rst (0:Nat)).1) (aj (aj (ab rst rst (0:Nat)).2.1 (ByteArray.mk #[47,47]).data.toList).1 (ByteArray.mk #[47]).data.toList).1).rst))]∧
 ((RS.mk sc us pw hk hs hn hp port false pn pl hq q hf fg bare sp rst).ao=((RS.mk (ab rst rst (0:Nat)).1 us pw hk hs hn hp port false pn pl hq q hf fg false (aw (ab rst rst (0:Nat)).1) (aj (aj (ab rst rst (0:Nat)).2.1 (ByteArray.mk #[47,47]).data.toList).1 (ByteArray.mk #[47]).data.toList).1).path.tail,(0:Int))∧
 List.length (RS.mk (ab rst rst (0:Nat)).1 us pw hk hs hn hp port false pn pl hq q hf fg false (aw (ab rst rst (0:Nat)).1) (aj (aj (ab rst rst (0:Nat)).2.1 (ByteArray.mk #[47,47]).data.toList).1 (ByteArray.mk #[47]).data.toList).1).rst≤(300000:Nat)∧
 (RS.mk (ab rst rst (0:Nat)).1 us pw hk hs hn hp port false pn pl hq q hf fg false (aw (ab rst rst (0:Nat)).1) (aj (aj (ab rst rst (0:Nat)).2.1 (ByteArray.mk #[47,47]).data.toList).1 (ByteArray.mk #[47]).data.toList).1).pl.length≤(100000:Nat))∧
 ID k sc us pw hk hs hn hp port pn pl hq q hf fg bare sp rst)∧
 ((aj (aj (ab rst rst (0:Nat)).2.1 (ByteArray.mk #[47,47]).data.toList).1 (ByteArray.mk #[47]).data.toList).2=false→
 (List.length (aj (aj (ab rst rst (0:Nat)).2.1 (ByteArray.mk #[47,47]).data.toList).1 (ByteArray.mk #[47]).data.toList).1).le (300000:Nat)∧
 (aa (aj (aj (ab rst rst (0:Nat)).2.1 (ByteArray.mk #[47,47]).data.toList).1 (ByteArray.mk #[47]).data.toList).1 ↑(aE (aj (aj (ab rst rst (0:Nat)).2.1 (ByteArray.mk #[47,47]).data.toList).1 (ByteArray.mk #[47]).data.toList).1)).length.le (300000:Nat)∧
 (List.length (bG (aa (aj (aj (ab rst rst (0:Nat)).2.1 (ByteArray.mk #[47,47]).data.toList).1 (ByteArray.mk #[47]).data.toList).1 ↑(aE (aj (aj (ab rst rst (0:Nat)).2.1 (ByteArray.mk #[47,47]).data.toList).1 (ByteArray.mk #[47]).data.toList).1)))).le (300000:Nat)∧
 k (PV.int .i64 (0:Int)) [bT (PV.raw (Go.Value.pointer none)) 0 ((ab rst rst (0:Nat)).1) us pw hk hs hn hp port true false ([nz (ae (aj (aj (ab rst rst (0:Nat)).2.1 (ByteArray.mk #[47,47]).data.toList).1 (ByteArray.mk #[47]).data.toList).1 ↑(aE (aj (aj (ab rst rst (0:Nat)).2.1 (ByteArray.mk #[47,47]).data.toList).1 (ByteArray.mk #[47]).data.toList).1)) (aa (aj (aj (ab rst rst (0:Nat)).2.1 (ByteArray.mk #[47,47]).data.toList).1 (ByteArray.mk #[47]).data.toList).1 ↑(aE (aj (aj (ab rst rst (0:Nat)).2.1 (ByteArray.mk #[47,47]).data.toList).1 (ByteArray.mk #[47]).data.toList).1))]) (dW (aa (aj (aj (ab rst rst (0:Nat)).2.1 (ByteArray.mk #[47,47]).data.toList).1 (ByteArray.mk #[47]).data.toList).1 ↑(aE (aj (aj (ab rst rst (0:Nat)).2.1 (ByteArray.mk #[47,47]).data.toList).1 (ByteArray.mk #[47]).data.toList).1)) hq) (dX (aw (ab rst rst (0:Nat)).1) (aa (aj (aj (ab rst rst (0:Nat)).2.1 (ByteArray.mk #[47,47]).data.toList).1 (ByteArray.mk #[47]).data.toList).1 ↑(aE (aj (aj (ab rst rst (0:Nat)).2.1 (ByteArray.mk #[47,47]).data.toList).1 (ByteArray.mk #[47]).data.toList).1)) q) (dY (bG (aa (aj (aj (ab rst rst (0:Nat)).2.1 (ByteArray.mk #[47,47]).data.toList).1 (ByteArray.mk #[47]).data.toList).1 ↑(aE (aj (aj (ab rst rst (0:Nat)).2.1 (ByteArray.mk #[47,47]).data.toList).1 (ByteArray.mk #[47]).data.toList).1))) hf) (dZ (bG (aa (aj (aj (ab rst rst (0:Nat)).2.1 (ByteArray.mk #[47,47]).data.toList).1 (ByteArray.mk #[47]).data.toList).1 ↑(aE (aj (aj (ab rst rst (0:Nat)).2.1 (ByteArray.mk #[47,47]).data.toList).1 (ByteArray.mk #[47]).data.toList).1))) fg) false (aw (ab rst rst (0:Nat)).1) (eb (bG (aa (aj (aj (ab rst rst (0:Nat)).2.1 (ByteArray.mk #[47,47]).data.toList).1 (ByteArray.mk #[47]).data.toList).1 ↑(aE (aj (aj (ab rst rst (0:Nat)).2.1 (ByteArray.mk #[47,47]).data.toList).1 (ByteArray.mk #[47]).data.toList).1))))])))))∧
 (aw (ab rst rst (0:Nat)).1=!true→
 (false=false→
 false=true→
 True)∧
 (false=true→
 VS.mk [] [(0,PV.ptr (0:Nat) (0:Nat)),(2,PV.int .i64 (0:Int)),(3,PV.int .i64 (0:Int)),(6,PV.bool !decide ((0:Int)=(0:Int))),(10,PV.bool false),(16,PV.bool (decide ((ab rst rst (0:Nat)).1=(ByteArray.mk #[102,105,108,101]).data.toList))),(26,PV.undef),(28,PV.bool false),(51,PV.undef),(58,PV.undef),(61,PV.undef),(71,PV.undef),(77,PV.undef),(81,PV.undef),(87,PV.undef),(97,PV.undef)] [((0:Nat),bT (PV.raw (Go.Value.pointer none)) 1 ((ab rst rst (0:Nat)).1) us pw hk hs hn hp port false pn pl hq q hf fg false (aw (ab rst rst (0:Nat)).1) ((ab rst rst (0:Nat)).2.1))]=VS.mk [] [] []∧
 False∧
 ∀(x:RS),False→
 False)∧
 (false=false→
 (aw (ab rst rst (0:Nat)).1=true→
 (List.length (ab rst rst (0:Nat)).2.1).le (300000:Nat)∧
 VS.mk [] [(0,PV.ptr (0:Nat) (0:Nat)),(2,PV.int .i64 (0:Int)),(3,PV.int .i64 (0:Int)),(6,PV.bool !decide ((0:Int)=(0:Int))),(10,PV.bool false),(16,PV.bool (decide ((ab rst rst (0:Nat)).1=(ByteArray.mk #[102,105,108,101]).data.toList))),(26,PV.undef),(28,PV.bool false),(51,PV.bool (aw (ab rst rst (0:Nat)).1)),(58,PV.undef),(61,PV.undef),(71,PV.undef),(77,PV.undef),(81,PV.undef),(87,PV.undef),(97,PV.undef)] [((0:Nat),bT (PV.raw (Go.Value.pointer none)) 1 ((ab rst rst (0:Nat)).1) us pw hk hs hn hp port false pn pl hq q hf fg false (aw (ab rst rst (0:Nat)).1) (aB (List.length (ab rst rst (0:Nat)).2.1) (aw (ab rst rst (0:Nat)).1) (0:Int) (ab rst rst (0:Nat)).2.1))]=VS.mk [] [(0,PV.ptr (0:Nat) (0:Nat)),(2,PV.int .i64 (0:Int)),(3,PV.int .i64 (0:Int)),(6,PV.bool !decide ((0:Int)=(0:Int))),(10,PV.bool false),(16,PV.bool (decide ((ab rst rst (0:Nat)).1=(ByteArray.mk #[102,105,108,101]).data.toList))),(26,PV.undef),(28,PV.bool false),(51,PV.bool (aw (ab rst rst (0:Nat)).1)),(58,PV.undef),(61,PV.undef),(71,PV.undef),(77,PV.undef),(81,PV.undef),(87,PV.undef),(97,PV.undef)] [((0:Nat),bT (PV.raw (Go.Value.pointer none)) 1 ((RS.mk (ab rst rst (0:Nat)).1 us pw hk hs hn hp port false pn pl hq q hf fg false (aw (ab rst rst (0:Nat)).1) (aB (List.length (ab rst rst (0:Nat)).2.1) (aw (ab rst rst (0:Nat)).1) (0:Int) (ab rst rst (0:Nat)).2.1)).sc) ((RS.mk (ab rst rst (0:Nat)).1 us pw hk hs hn hp port false pn pl hq q hf fg false (aw (ab rst rst (0:Nat)).1) (aB (List.length (ab rst rst (0:Nat)).2.1) (aw (ab rst rst (0:Nat)).1) (0:Int) (ab rst rst (0:Nat)).2.1)).us) ((RS.mk (ab rst rst (0:Nat)).1 us pw hk hs hn hp port false pn pl hq q hf fg false (aw (ab rst rst (0:Nat)).1) (aB (List.length (ab rst rst (0:Nat)).2.1) (aw (ab rst rst (0:Nat)).1) (0:Int) (ab rst rst (0:Nat)).2.1)).pw) ((RS.mk (ab rst rst (0:Nat)).1 us pw hk hs hn hp port false pn pl hq q hf fg false (aw (ab rst rst (0:Nat)).1) (aB (List.length (ab rst rst (0:Nat)).2.1) (aw (ab rst rst (0:Nat)).1) (0:Int) (ab rst rst (0:Nat)).2.1)).hk) ((RS.mk (ab rst rst (0:Nat)).1 us pw hk hs hn hp port false pn pl hq q hf fg false (aw (ab rst rst (0:Nat)).1) (aB (List.length (ab rst rst (0:Nat)).2.1) (aw (ab rst rst (0:Nat)).1) (0:Int) (ab rst rst (0:Nat)).2.1)).hs) ((RS.mk (ab rst rst (0:Nat)).1 us pw hk hs hn hp port false pn pl hq q hf fg false (aw (ab rst rst (0:Nat)).1) (aB (List.length (ab rst rst (0:Nat)).2.1) (aw (ab rst rst (0:Nat)).1) (0:Int) (ab rst rst (0:Nat)).2.1)).hn) ((RS.mk (ab rst rst (0:Nat)).1 us pw hk hs hn hp port false pn pl hq q hf fg false (aw (ab rst rst (0:Nat)).1) (aB (List.length (ab rst rst (0:Nat)).2.1) (aw (ab rst rst (0:Nat)).1) (0:Int) (ab rst rst (0:Nat)).2.1)).hp) ((RS.mk (ab rst rst (0:Nat)).1 us pw hk hs hn hp port false pn pl hq q hf fg false (aw (ab rst rst (0:Nat)).1) (aB (List.length (ab rst rst (0:Nat)).2.1) (aw (ab rst rst (0:Nat)).1) (0:Int) (ab rst rst (0:Nat)).2.1)).port) ((RS.mk (ab rst rst (0:Nat)).1 us pw hk hs hn hp port false pn pl hq q hf fg false (aw (ab rst rst (0:Nat)).1) (aB (List.length (ab rst rst (0:Nat)).2.1) (aw (ab rst rst (0:Nat)).1) (0:Int) (ab rst rst (0:Nat)).2.1)).opq) ((RS.mk (ab rst rst (0:Nat)).1 us pw hk hs hn hp port false pn pl hq q hf fg false (aw (ab rst rst (0:Nat)).1) (aB (List.length (ab rst rst (0:Nat)).2.1) (aw (ab rst rst (0:Nat)).1) (0:Int) (ab rst rst (0:Nat)).2.1)).pn) ((RS.mk (ab rst rst (0:Nat)).1 us pw hk hs hn hp port false pn pl hq q hf fg false (aw (ab rst rst (0:Nat)).1) (aB (List.length (ab rst rst (0:Nat)).2.1) (aw (ab rst rst (0:Nat)).1) (0:Int) (ab rst rst (0:Nat)).2.1)).pl) ((RS.mk (ab rst rst (0:Nat)).1 us pw hk hs hn hp port false pn pl hq q hf fg false (aw (ab rst rst (0:Nat)).1) (aB (List.length (ab rst rst (0:Nat)).2.1) (aw (ab rst rst (0:Nat)).1) (0:Int) (ab rst rst (0:Nat)).2.1)).hq) ((RS.mk (ab rst rst (0:Nat)).1 us pw hk hs hn hp port false pn pl hq q hf fg false (aw (ab rst rst (0:Nat)).1) (aB (List.length (ab rst rst (0:Nat)).2.1) (aw (ab rst rst (0:Nat)).1) (0:Int) (ab rst rst (0:Nat)).2.1)).q) ((RS.mk (ab rst rst (0:Nat)).1 us pw hk hs hn hp port false pn pl hq q hf fg false (aw (ab rst rst (0:Nat)).1) (aB (List.length (ab rst rst (0:Nat)).2.1) (aw (ab rst rst (0:Nat)).1) (0:Int) (ab rst rst (0:Nat)).2.1)).hf) ((RS.mk (ab rst rst (0:Nat)).1 us pw hk hs hn hp port false pn pl hq q hf fg false (aw (ab rst rst (0:Nat)).1) (aB (List.length (ab rst rst (0:Nat)).2.1) (aw (ab rst rst (0:Nat)).1) (0:Int) (ab rst rst (0:Nat)).2.1)).fg) ((RS.mk (ab rst rst (0:Nat)).1 us pw hk hs hn hp port false pn pl hq q hf fg false (aw (ab rst rst (0:Nat)).1) (aB (List.length (ab rst rst (0:Nat)).2.1) (aw (ab rst rst (0:Nat)).1) (0:Int) (ab rst rst (0:Nat)).2.1)).bare) ((RS.mk (ab rst rst (0:Nat)).1 us pw hk hs hn hp port false pn pl hq q hf fg false (aw (ab rst rst (0:Nat)).1) (aB (List.length (ab rst rst (0:Nat)).2.1) (aw (ab rst rst (0:Nat)).1) (0:Int) (ab rst rst (0:Nat)).2.1)).sp) ((RS.mk (ab rst rst (0:Nat)).1 us pw hk hs hn hp port false pn pl hq q hf fg false (aw (ab rst rst (0:Nat)).1) (aB (List.length (ab rst rst (0:Nat)).2.1) (aw (ab rst rst (0:Nat)).1) (0:Int) (ab rst rst (0:Nat)).2.1)).rst))]∧
 ((RS.mk sc us pw hk hs hn hp port false pn pl hq q hf fg bare sp rst).ao=(RS.mk (ab rst rst (0:Nat)).1 us pw hk hs hn hp port false pn pl hq q hf fg false (aw (ab rst rst (0:Nat)).1) (aB (List.length (ab rst rst (0:Nat)).2.1) (aw (ab rst rst (0:Nat)).1) (0:Int) (ab rst rst (0:Nat)).2.1)).b7∧
 List.length (RS.mk (ab rst rst (0:Nat)).1 us pw hk hs hn hp port false pn pl hq q hf fg false (aw (ab rst rst (0:Nat)).1) (aB (List.length (ab rst rst (0:Nat)).2.1) (aw (ab rst rst (0:Nat)).1) (0:Int) (ab rst rst (0:Nat)).2.1)).rst≤(300000:Nat)∧
 (RS.mk (ab rst rst (0:Nat)).1 us pw hk hs hn hp port false pn pl hq q hf fg false (aw (ab rst rst (0:Nat)).1) (aB (List.length (ab rst rst (0:Nat)).2.1) (aw (ab rst rst (0:Nat)).1) (0:Int) (ab rst rst (0:Nat)).2.1)).pl.length≤(100000:Nat))∧
 As k sc us pw hk hs hn hp port pn pl hq q hf fg bare sp rst)∧
 (aw (ab rst rst (0:Nat)).1=false→
 True∧
 ((aj (ab rst rst (0:Nat)).2.1 (ByteArray.mk #[47,47]).data.toList).2=true→
 VS.mk [] [(0,PV.ptr (0:Nat) (0:Nat)),(2,PV.int .i64 (0:Int)),(3,PV.int .i64 (0:Int)),(6,PV.bool !decide ((0:Int)=(0:Int))),(10,PV.bool false),(16,PV.bool (decide ((ab rst rst (0:Nat)).1=(ByteArray.mk #[102,105,108,101]).data.toList))),(26,PV.undef),(28,PV.bool false),(51,PV.bool (aw (ab rst rst (0:Nat)).1)),(58,PV.bool (aj (ab rst rst (0:Nat)).2.1 (ByteArray.mk #[47,47]).data.toList).2),(61,PV.undef),(71,PV.undef),(77,PV.undef),(81,PV.undef),(87,PV.undef),(97,PV.undef)] [((0:Nat),bT (PV.raw (Go.Value.pointer none)) 1 ((ab rst rst (0:Nat)).1) us pw hk hs hn hp port false pn pl hq q hf fg false (aw (ab rst rst (0:Nat)).1) ((aj (ab rst rst (0:Nat)).2.1 (ByteArray.mk #[47,47]).data.toList).1))]=VS.mk [] [(0,PV.ptr (0:Nat) (0:Nat)),(2,PV.int .i64 (0:Int)),(3,PV.int .i64 (0:Int)),(6,PV.bool !decide ((0:Int)=(0:Int))),(10,PV.bool false),(16,PV.bool (decide ((ab rst rst (0:Nat)).1=(ByteArray.mk #[102,105,108,101]).data.toList))),(26,PV.undef),(28,PV.bool false),(51,PV.bool (aw (ab rst rst (0:Nat)).1)),(58,PV.bool (aj (ab rst rst (0:Nat)).2.1 (ByteArray.mk #[47,47]).data.toList).2),(61,PV.undef),(71,PV.undef),(77,PV.undef),(81,PV.undef),(87,PV.undef),(97,PV.undef)] [((0:Nat),bT (PV.raw (Go.Value.pointer none)) 1 ((RS.mk (ab rst rst (0:Nat)).1 us pw hk hs hn hp port false pn pl hq q hf fg false (aw (ab rst rst (0:Nat)).1) (aj (ab rst rst (0:Nat)).2.1 (ByteArray.mk #[47,47]).data.toList).1).sc) ((RS.mk (ab rst rst (0:Nat)).1 us pw hk hs hn hp port false pn pl hq q hf fg false (aw (ab rst rst (0:Nat)).1) (aj (ab rst rst (0:Nat)).2.1 (ByteArray.mk #[47,47]).data.toList).1).us) ((RS.mk (ab rst rst (0:Nat)).1 us pw hk hs hn hp port false pn pl hq q hf fg false (aw (ab rst rst (0:Nat)).1) (aj (ab rst rst (0:Nat)).2.1 (ByteArray.mk #[47,47]).data.toList).1).pw) ((RS.mk (ab rst rst (0:Nat)).1 us pw hk hs hn hp port false pn pl hq q hf fg false (aw (ab rst rst (0:Nat)).1) (aj (ab rst rst (0:Nat)).2.1 (ByteArray.mk #[47,47]).data.toList).1).hk) ((RS.mk (ab rst rst (0:Nat)).1 us pw hk hs hn hp port false pn pl hq q hf fg false (aw (ab rst rst (0:Nat)).1) (aj (ab rst rst (0:Nat)).2.1 (ByteArray.mk #[47,47]).data.toList).1).hs) ((RS.mk (ab rst rst (0:Nat)).1 us pw hk hs hn hp port false pn pl hq q hf fg false (aw (ab rst rst (0:Nat)).1) (aj (ab rst rst (0:Nat)).2.1 (ByteArray.mk #[47,47]).data.toList).1).hn) ((RS.mk (ab rst rst (0:Nat)).1 us pw hk hs hn hp port false pn pl hq q hf fg false (aw (ab rst rst (0:Nat)).1) (aj (ab rst rst (0:Nat)).2.1 (ByteArray.mk #[47,47]).data.toList).1).hp) ((RS.mk (ab rst rst (0:Nat)).1 us pw hk hs hn hp port false pn pl hq q hf fg false (aw (ab rst rst (0:Nat)).1) (aj (ab rst rst (0:Nat)).2.1 (ByteArray.mk #[47,47]).data.toList).1).port) ((RS.mk (ab rst rst (0:Nat)).1 us pw hk hs hn hp port false pn pl hq q hf fg false (aw (ab rst rst (0:Nat)).1) (aj (ab rst rst (0:Nat)).2.1 (ByteArray.mk #[47,47]).data.toList).1).opq) ((RS.mk (ab rst rst (0:Nat)).1 us pw hk hs hn hp port false pn pl hq q hf fg false (aw (ab rst rst (0:Nat)).1) (aj (ab rst rst (0:Nat)).2.1 (ByteArray.mk #[47,47]).data.toList).1).pn) ((RS.mk (ab rst rst (0:Nat)).1 us pw hk hs hn hp port false pn pl hq q hf fg false (aw (ab rst rst (0:Nat)).1) (aj (ab rst rst (0:Nat)).2.1 (ByteArray.mk #[47,47]).data.toList).1).pl) ((RS.mk (ab rst rst (0:Nat)).1 us pw hk hs hn hp port false pn pl hq q hf fg false (aw (ab rst rst (0:Nat)).1) (aj (ab rst rst (0:Nat)).2.1 (ByteArray.mk #[47,47]).data.toList).1).hq) ((RS.mk (ab rst rst (0:Nat)).1 us pw hk hs hn hp port false pn pl hq q hf fg false (aw (ab rst rst (0:Nat)).1) (aj (ab rst rst (0:Nat)).2.1 (ByteArray.mk #[47,47]).data.toList).1).q) ((RS.mk (ab rst rst (0:Nat)).1 us pw hk hs hn hp port false pn pl hq q hf fg false (aw (ab rst rst (0:Nat)).1) (aj (ab rst rst (0:Nat)).2.1 (ByteArray.mk #[47,47]).data.toList).1).hf) ((RS.mk (ab rst rst (0:Nat)).1 us pw hk hs hn hp port false pn pl hq q hf fg false (aw (ab rst rst (0:Nat)).1) (aj (ab rst rst (0:Nat)).2.1 (ByteArray.mk #[47,47]).data.toList).1).fg) ((RS.mk (ab rst rst (0:Nat)).1 us pw hk hs hn hp port false pn pl hq q hf fg false (aw (ab rst rst (0:Nat)).1) (aj (ab rst rst (0:Nat)).2.1 (ByteArray.mk #[47,47]).data.toList).1).bare) ((RS.mk (ab rst rst (0:Nat)).1 us pw hk hs hn hp port false pn pl hq q hf fg false (aw (ab rst rst (0:Nat)).1) (aj (ab rst rst (0:Nat)).2.1 (ByteArray.mk #[47,47]).data.toList).1).sp) ((RS.mk (ab rst rst (0:Nat)).1 us pw hk hs hn hp port false pn pl hq q hf fg false (aw (ab rst rst (0:Nat)).1) (aj (ab rst rst (0:Nat)).2.1 (ByteArray.mk #[47,47]).data.toList).1).rst))]∧
 ((RS.mk sc us pw hk hs hn hp port false pn pl hq q hf fg bare sp rst).ao=(RS.mk (ab rst rst (0:Nat)).1 us pw hk hs hn hp port false pn pl hq q hf fg false (aw (ab rst rst (0:Nat)).1) (aj (ab rst rst (0:Nat)).2.1 (ByteArray.mk #[47,47]).data.toList).1).b7∧
 List.length (RS.mk (ab rst rst (0:Nat)).1 us pw hk hs hn hp port false pn pl hq q hf fg false (aw (ab rst rst (0:Nat)).1) (aj (ab rst rst (0:Nat)).2.1 (ByteArray.mk #[47,47]).data.toList).1).rst≤(300000:Nat)∧
 (RS.mk (ab rst rst (0:Nat)).1 us pw hk hs hn hp port false pn pl hq q hf fg false (aw (ab rst rst (0:Nat)).1) (aj (ab rst rst (0:Nat)).2.1 (ByteArray.mk #[47,47]).data.toList).1).pl.length≤(100000:Nat))∧
 As k sc us pw hk hs hn hp port pn pl hq q hf fg bare sp rst)∧
 ((aj (ab rst rst (0:Nat)).2.1 (ByteArray.mk #[47,47]).data.toList).2=false→
 True∧
 ((aj (aj (ab rst rst (0:Nat)).2.1 (ByteArray.mk #[47,47]).data.toList).1 (ByteArray.mk #[47]).data.toList).2=true→
 VS.mk [] [(0,PV.ptr (0:Nat) (0:Nat)),(2,PV.int .i64 (0:Int)),(3,PV.int .i64 (0:Int)),(6,PV.bool !decide ((0:Int)=(0:Int))),(10,PV.bool false),(16,PV.bool (decide ((ab rst rst (0:Nat)).1=(ByteArray.mk #[102,105,108,101]).data.toList))),(26,PV.undef),(28,PV.bool false),(51,PV.bool (aw (ab rst rst (0:Nat)).1)),(58,PV.bool (aj (ab rst rst (0:Nat)).2.1 (ByteArray.mk #[47,47]).data.toList).2),(61,PV.bool (aj (aj (ab rst rst (0:Nat)).2.1 (ByteArray.mk #[47,47]).data.toList).1 (ByteArray.mk #[47]).data.toList).2),(71,PV.undef),(77,PV.undef),(81,PV.undef),(87,PV.undef),(97,PV.undef)] [((0:Nat),bT (PV.raw (Go.Value.pointer none)) 1 ((ab rst rst (0:Nat)).1) us pw hk hs hn hp port false pn pl hq q hf fg false (aw (ab rst rst (0:Nat)).1) ((aj (aj (ab rst rst (0:Nat)).2.1 (ByteArray.mk #[47,47]).data.toList).1 (ByteArray.mk #[47]).data.toList).1))]=VS.mk [] [(0,PV.ptr (0:Nat) (0:Nat)),(2,PV.int .i64 (0:Int)),(3,PV.int .i64 (0:Int)),(6,PV.bool !decide ((0:Int)=(0:Int))),(10,PV.bool false),(16,PV.bool (decide ((ab rst rst (0:Nat)).1=(ByteArray.mk #[102,105,108,101]).data.toList))),(26,PV.undef),(28,PV.bool false),(51,PV.bool (aw (ab rst rst (0:Nat)).1)),(58,PV.bool (aj (ab rst rst (0:Nat)).2.1 (ByteArray.mk #[47,47]).data.toList).2),(61,PV.bool (aj (aj (ab rst rst (0:Nat)).2.1 (ByteArray.mk #[47,47]).data.toList).1 (ByteArray.mk #[47]).data.toList).2),(71,PV.undef),(77,PV.undef),(81,PV.undef),(87,PV.undef),(97,PV.undef)] [((0:Nat),bT (PV.raw (Go.Value.pointer none)) 1 ((RS.mk (ab rst rst (0:Nat)).1 us pw hk hs hn hp port false pn pl hq q hf fg false (aw (ab rst rst (0:Nat)).1) (aj (aj (ab rst rst (0:Nat)).2.1 (ByteArray.mk #[47,47]).data.toList).1 (ByteArray.mk #[47]).data.toList).1).sc) ((RS.mk (ab rst rst (0:Nat)).1 us pw hk hs hn hp port false pn pl hq q hf fg false (aw (ab rst rst (0:Nat)).1) (aj (aj (ab rst rst (0:Nat)).2.1 (ByteArray.mk #[47,47]).data.toList).1 (ByteArray.mk #[47]).data.toList).1).us) ((RS.mk (ab rst rst (0:Nat)).1 us pw hk hs hn hp port false pn pl hq q hf fg false (aw (ab rst rst (0:Nat)).1) (aj (aj (ab rst rst (0:Nat)).2.1 (ByteArray.mk #[47,47]).data.toList).1 (ByteArray.mk #[47]).data.toList).1).pw) ((RS.mk (ab rst rst (0:Nat)).1 us pw hk hs hn hp port false pn pl hq q hf fg false (aw (ab rst rst (0:Nat)).1) (aj (aj (ab rst rst (0:Nat)).2.1 (ByteArray.mk #[47,47]).data.toList).1 (ByteArray.mk #[47]).data.toList).1).hk) ((RS.mk (ab rst rst (0:Nat)).1 us pw hk hs hn hp port false pn pl hq q hf fg false (aw (ab rst rst (0:Nat)).1) (aj (aj (ab rst rst (0:Nat)).2.1 (ByteArray.mk #[47,47]).data.toList).1 (ByteArray.mk #[47]).data.toList).1).hs) ((RS.mk (ab rst rst (0:Nat)).1 us pw hk hs hn hp port false pn pl hq q hf fg false (aw (ab rst rst (0:Nat)).1) (aj (aj (ab rst rst (0:Nat)).2.1 (ByteArray.mk #[47,47]).data.toList).1 (ByteArray.mk #[47]).data.toList).1).hn) ((RS.mk (ab rst rst (0:Nat)).1 us pw hk hs hn hp port false pn pl hq q hf fg false (aw (ab rst rst (0:Nat)).1) (aj (aj (ab rst rst (0:Nat)).2.1 (ByteArray.mk #[47,47]).data.toList).1 (ByteArray.mk #[47]).data.toList).1).hp) ((RS.mk (ab rst rst (0:Nat)).1 us pw hk hs hn hp port false pn pl hq q hf fg false (aw (ab rst rst (0:Nat)).1) (aj (aj (ab rst rst (0:Nat)).2.1 (ByteArray.mk #[47,47]).data.toList).1 (ByteArray.mk #[47]).data.toList).1).port) ((RS.mk (ab rst rst (0:Nat)).1 us pw hk hs hn hp port false pn pl hq q hf fg false (aw (ab rst rst (0:Nat)).1) (aj (aj (ab rst rst (0:Nat)).2.1 (ByteArray.mk #[47,47]).data.toList).1 (ByteArray.mk #[47]).data.toList).1).opq) ((RS.mk (ab rst rst (0:Nat)).1 us pw hk hs hn hp port false pn pl hq q hf fg false (aw (ab rst rst (0:Nat)).1) (aj (aj (ab rst rst (0:Nat)).2.1 (ByteArray.mk #[47,47]).data.toList).1 (ByteArray.mk #[47]).data.toList).1).pn) ((RS.mk (ab rst rst (0:Nat)).1 us pw hk hs hn hp port false pn pl hq q hf fg false (aw (ab rst rst (0:Nat)).1) (aj (aj (ab rst rst (0:Nat)).2.1 (ByteArray.mk #[47,47]).data.toList).1 (ByteArray.mk #[47]).data.toList).1).pl) ((RS.mk (ab rst rst (0:Nat)).1 us pw hk hs hn hp port false pn pl hq q hf fg false (aw (ab rst rst (0:Nat)).1) (aj (aj (ab rst rst (0:Nat)).2.1 (ByteArray.mk #[47,47]).data.toList).1 (ByteArray.mk #[47]).data.toList).1).hq) ((RS.mk (ab rst rst (0:Nat)).1 us pw hk hs hn hp port false pn pl hq q hf fg false (aw (ab rst rst (0:Nat)).1) (aj (aj (ab rst rst (0:Nat)).2.1 (ByteArray.mk #[47,47]).data.toList).1 (ByteArray.mk #[47]).data.toList).1).q) ((RS.mk (ab rst rst (0:Nat)).1 us pw hk hs hn hp port false pn pl hq q hf fg false (aw (ab rst rst (0:Nat)).1) (aj (aj (ab rst rst (0:Nat)).2.1 (ByteArray.mk #[47,47]).data.toList).1 (ByteArray.mk #[47]).data.toList).1).hf) ((RS.mk (ab rst rst (0:Nat)).1 us pw hk hs hn hp port false pn pl hq q hf fg false (aw (ab rst rst (0:Nat)).1) (aj (aj (ab rst rst (0:Nat)).2.1 (ByteArray.mk #[47,47]).data.toList).1 (ByteArray.mk #[47]).data.toList).1).fg) ((RS.mk (ab rst rst (0:Nat)).1 us pw hk hs hn hp port false pn pl hq q hf fg false (aw (ab rst rst (0:Nat)).1) (aj (aj (ab rst rst (0:Nat)).2.1 (ByteArray.mk #[47,47]).data.toList).1 (ByteArray.mk #[47]).data.toList).1).bare) ((RS.mk (ab rst rst (0:Nat)).1 us pw hk hs hn hp port false pn pl hq q hf fg false (aw (ab rst rst (0:Nat)).1) (aj (aj (ab rst rst (0:Nat)).2.1 (ByteArray.mk #[47,47]).data.toList).1 (ByteArray.mk #[47]).data.toList).1).sp) ((RS.mk (ab rst rst (0:Nat)).1 us pw hk hs hn hp port false pn pl hq q hf fg false (aw (ab rst rst (0:Nat)).1) (aj (aj (ab rst rst (0:Nat)).2.1 (ByteArray.mk #[47,47]).data.toList).1 (ByteArray.mk #[47]).data.toList).1).rst))]∧
 ((RS.mk sc us pw hk hs hn hp port false pn pl hq q hf fg bare sp rst).ao=((RS.mk (ab rst rst (0:Nat)).1 us pw hk hs hn hp port false pn pl hq q hf fg false (aw (ab rst rst (0:Nat)).1) (aj (aj (ab rst rst (0:Nat)).2.1 (ByteArray.mk #[47,47]).data.toList).1 (ByteArray.mk #[47]).data.toList).1).path.tail,(0:Int))∧
 List.length (RS.mk (ab rst rst (0:Nat)).1 us pw hk hs hn hp port false pn pl hq q hf fg false (aw (ab rst rst (0:Nat)).1) (aj (aj (ab rst rst (0:Nat)).2.1 (ByteArray.mk #[47,47]).data.toList).1 (ByteArray.mk #[47]).data.toList).1).rst≤(300000:Nat)∧
 (RS.mk (ab rst rst (0:Nat)).1 us pw hk hs hn hp port false pn pl hq q hf fg false (aw (ab rst rst (0:Nat)).1) (aj (aj (ab rst rst (0:Nat)).2.1 (ByteArray.mk #[47,47]).data.toList).1 (ByteArray.mk #[47]).data.toList).1).pl.length≤(100000:Nat))∧
 ID k sc us pw hk hs hn hp port pn pl hq q hf fg bare sp rst)∧
 ((aj (aj (ab rst rst (0:Nat)).2.1 (ByteArray.mk #[47,47]).data.toList).1 (ByteArray.mk #[47]).data.toList).2=false→
 (List.length (aj (aj (ab rst rst (0:Nat)).2.1 (ByteArray.mk #[47,47]).data.toList).1 (ByteArray.mk #[47]).data.toList).1).le (300000:Nat)∧
 (aa (aj (aj (ab rst rst (0:Nat)).2.1 (ByteArray.mk #[47,47]).data.toList).1 (ByteArray.mk #[47]).data.toList).1 ↑(aE (aj (aj (ab rst rst (0:Nat)).2.1 (ByteArray.mk #[47,47]).data.toList).1 (ByteArray.mk #[47]).data.toList).1)).length.le (300000:Nat)∧
 (List.length (bG (aa (aj (aj (ab rst rst (0:Nat)).2.1 (ByteArray.mk #[47,47]).data.toList).1 (ByteArray.mk #[47]).data.toList).1 ↑(aE (aj (aj (ab rst rst (0:Nat)).2.1 (ByteArray.mk #[47,47]).data.toList).1 (ByteArray.mk #[47]).data.toList).1)))).le (300000:Nat)∧
 k (PV.int .i64 (0:Int)) [bT (PV.raw (Go.Value.pointer none)) 0 ((ab rst rst (0:Nat)).1) us pw hk hs hn hp port true false ([nz (ae (aj (aj (ab rst rst (0:Nat)).2.1 (ByteArray.mk #[47,47]).data.toList).1 (ByteArray.mk #[47]).data.toList).1 ↑(aE (aj (aj (ab rst rst (0:Nat)).2.1 (ByteArray.mk #[47,47]).data.toList).1 (ByteArray.mk #[47]).data.toList).1)) (aa (aj (aj (ab rst rst (0:Nat)).2.1 (ByteArray.mk #[47,47]).data.toList).1 (ByteArray.mk #[47]).data.toList).1 ↑(aE (aj (aj (ab rst rst (0:Nat)).2.1 (ByteArray.mk #[47,47]).data.toList).1 (ByteArray.mk #[47]).data.toList).1))]) (dW (aa (aj (aj (ab rst rst (0:Nat)).2.1 (ByteArray.mk #[47,47]).data.toList).1 (ByteArray.mk #[47]).data.toList).1 ↑(aE (aj (aj (ab rst rst (0:Nat)).2.1 (ByteArray.mk #[47,47]).data.toList).1 (ByteArray.mk #[47]).data.toList).1)) hq) (dX (aw (ab rst rst (0:Nat)).1) (aa (aj (aj (ab rst rst (0:Nat)).2.1 (ByteArray.mk #[47,47]).data.toList).1 (ByteArray.mk #[47]).data.toList).1 ↑(aE (aj (aj (ab rst rst (0:Nat)).2.1 (ByteArray.mk #[47,47]).data.toList).1 (ByteArray.mk #[47]).data.toList).1)) q) (dY (bG (aa (aj (aj (ab rst rst (0:Nat)).2.1 (ByteArray.mk #[47,47]).data.toList).1 (ByteArray.mk #[47]).data.toList).1 ↑(aE (aj (aj (ab rst rst (0:Nat)).2.1 (ByteArray.mk #[47,47]).data.toList).1 (ByteArray.mk #[47]).data.toList).1))) hf) (dZ (bG (aa (aj (aj (ab rst rst (0:Nat)).2.1 (ByteArray.mk #[47,47]).data.toList).1 (ByteArray.mk #[47]).data.toList).1 ↑(aE (aj (aj (ab rst rst (0:Nat)).2.1 (ByteArray.mk #[47,47]).data.toList).1 (ByteArray.mk #[47]).data.toList).1))) fg) false (aw (ab rst rst (0:Nat)).1) (eb (bG (aa (aj (aj (ab rst rst (0:Nat)).2.1 (ByteArray.mk #[47,47]).data.toList).1 (ByteArray.mk #[47]).data.toList).1 ↑(aE (aj (aj (ab rst rst (0:Nat)).2.1 (ByteArray.mk #[47,47]).data.toList).1 (ByteArray.mk #[47]).data.toList).1))))]))))))∧
 (false=!false→
 ((!false)=false→
 false=true→
 True)∧
 (true=true→
 VS.mk [] [(0,PV.ptr (0:Nat) (0:Nat)),(2,PV.int .i64 (0:Int)),(3,PV.int .i64 (0:Int)),(6,PV.bool !decide ((0:Int)=(0:Int))),(10,PV.bool false),(16,PV.bool (decide ((ab rst rst (0:Nat)).1=(ByteArray.mk #[102,105,108,101]).data.toList))),(26,PV.undef),(28,PV.bool true),(51,PV.undef),(58,PV.undef),(61,PV.undef),(71,PV.undef),(77,PV.undef),(81,PV.undef),(87,PV.undef),(97,PV.undef)] [((0:Nat),bT (PV.raw (Go.Value.pointer none)) 1 ((ab rst rst (0:Nat)).1) us pw hk hs hn hp port false pn pl hq q hf fg false (aw (ab rst rst (0:Nat)).1) ((ab rst rst (0:Nat)).2.1))]=VS.mk [] [] []∧
 False∧
 ∀(x:RS),False→
 False)∧
 (true=false→
 (aw (ab rst rst (0:Nat)).1=true→
 (List.length (ab rst rst (0:Nat)).2.1).le (300000:Nat)∧
 VS.mk [] [(0,PV.ptr (0:Nat) (0:Nat)),(2,PV.int .i64 (0:Int)),(3,PV.int .i64 (0:Int)),(6,PV.bool !decide ((0:Int)=(0:Int))),(10,PV.bool false),(16,PV.bool (decide ((ab rst rst (0:Nat)).1=(ByteArray.mk #[102,105,108,101]).data.toList))),(26,PV.undef),(28,PV.bool true),(51,PV.bool (aw (ab rst rst (0:Nat)).1)),(58,PV.undef),(61,PV.undef),(71,PV.undef),(77,PV.undef),(81,PV.undef),(87,PV.undef),(97,PV.undef)] [((0:Nat),bT (PV.raw (Go.Value.pointer none)) 1 ((ab rst rst (0:Nat)).1) us pw hk hs hn hp port false pn pl hq q hf fg false (aw (ab rst rst (0:Nat)).1) (aB (List.length (ab rst rst (0:Nat)).2.1) (aw (ab rst rst (0:Nat)).1) (0:Int) (ab rst rst (0:Nat)).2.1))]=VS.mk [] [(0,PV.ptr (0:Nat) (0:Nat)),(2,PV.int .i64 (0:Int)),(3,PV.int .i64 (0:Int)),(6,PV.bool !decide ((0:Int)=(0:Int))),(10,PV.bool false),(16,PV.bool (decide ((ab rst rst (0:Nat)).1=(ByteArray.mk #[102,105,108,101]).data.toList))),(26,PV.undef),(28,PV.bool true),(51,PV.bool (aw (ab rst rst (0:Nat)).1)),(58,PV.undef),(61,PV.undef),(71,PV.undef),(77,PV.undef),(81,PV.undef),(87,PV.undef),(97,PV.undef)] [((0:Nat),bT (PV.raw (Go.Value.pointer none)) 1 ((RS.mk (ab rst rst (0:Nat)).1 us pw hk hs hn hp port false pn pl hq q hf fg false (aw (ab rst rst (0:Nat)).1) (aB (List.length (ab rst rst (0:Nat)).2.1) (aw (ab rst rst (0:Nat)).1) (0:Int) (ab rst rst (0:Nat)).2.1)).sc) ((RS.mk (ab rst rst (0:Nat)).1 us pw hk hs hn hp port false pn pl hq q hf fg false (aw (ab rst rst (0:Nat)).1) (aB (List.length (ab rst rst (0:Nat)).2.1) (aw (ab rst rst (0:Nat)).1) (0:Int) (ab rst rst (0:Nat)).2.1)).us) ((RS.mk (ab rst rst (0:Nat)).1 us pw hk hs hn hp port false pn pl hq q hf fg false (aw (ab rst rst (0:Nat)).1) (aB (List.length (ab rst rst (0:Nat)).2.1) (aw (ab rst rst (0:Nat)).1) (0:Int) (ab rst rst (0:Nat)).2.1)).pw) ((RS.mk (ab rst rst (0:Nat)).1 us pw hk hs hn hp port false pn pl hq q hf fg false (aw (ab rst rst (0:Nat)).1) (aB (List.length (ab rst rst (0:Nat)).2.1) (aw (ab rst rst (0:Nat)).1) (0:Int) (ab rst rst (0:Nat)).2.1)).hk) ((RS.mk (ab rst rst (0:Nat)).1 us pw hk hs hn hp port false pn pl hq q hf fg false (aw (ab rst rst (0:Nat)).1) (aB (List.length (ab rst rst (0:Nat)).2.1) (aw (ab rst rst (0:Nat)).1) (0:Int) (ab rst rst (0:Nat)).2.1)).hs) ((RS.mk (ab rst rst (0:Nat)).1 us pw hk hs hn hp port false pn pl hq q hf fg false (aw (ab rst rst (0:Nat)).1) (aB (List.length (ab rst rst (0:Nat)).2.1) (aw (ab rst rst (0:Nat)).1) (0:Int) (ab rst rst (0:Nat)).2.1)).hn) ((RS.mk (ab rst rst (0:Nat)).1 us pw hk hs hn hp port false pn pl hq q hf fg false (aw (ab rst rst (0:Nat)).1) (aB (List.length (ab rst rst (0:Nat)).2.1) (aw (ab rst rst (0:Nat)).1) (0:Int) (ab rst rst (0:Nat)).2.1)).hp) ((RS.mk (ab rst rst (0:Nat)).1 us pw hk hs hn hp port false pn pl hq q hf fg false (aw (ab rst rst (0:Nat)).1) (aB (List.length (ab rst rst (0:Nat)).2.1) (aw (ab rst rst (0:Nat)).1) (0:Int) (ab rst rst (0:Nat)).2.1)).port) ((RS.mk (ab rst rst (0:Nat)).1 us pw hk hs hn hp port false pn pl hq q hf fg false (aw (ab rst rst (0:Nat)).1) (aB (List.length (ab rst rst (0:Nat)).2.1) (aw (ab rst rst (0:Nat)).1) (0:Int) (ab rst rst (0:Nat)).2.1)).opq) ((RS.mk (ab rst rst (0:Nat)).1 us pw hk hs hn hp port false pn pl hq q hf fg false (aw (ab rst rst (0:Nat)).1) (aB (List.length (ab rst rst (0:Nat)).2.1) (aw (ab rst rst (0:Nat)).1) (0:Int) (ab rst rst (0:Nat)).2.1)).pn) ((RS.mk (ab rst rst (0:Nat)).1 us pw hk hs hn hp port false pn pl hq q hf fg false (aw (ab rst rst (0:Nat)).1) (aB (List.length (ab rst rst (0:Nat)).2.1) (aw (ab rst rst (0:Nat)).1) (0:Int) (ab rst rst (0:Nat)).2.1)).pl) ((RS.mk (ab rst rst (0:Nat)).1 us pw hk hs hn hp port false pn pl hq q hf fg false (aw (ab rst rst (0:Nat)).1) (aB (List.length (ab rst rst (0:Nat)).2.1) (aw (ab rst rst (0:Nat)).1) (0:Int) (ab rst rst (0:Nat)).2.1)).hq) ((RS.mk (ab rst rst (0:Nat)).1 us pw hk hs hn hp port false pn pl hq q hf fg false (aw (ab rst rst (0:Nat)).1) (aB (List.length (ab rst rst (0:Nat)).2.1) (aw (ab rst rst (0:Nat)).1) (0:Int) (ab rst rst (0:Nat)).2.1)).q) ((RS.mk (ab rst rst (0:Nat)).1 us pw hk hs hn hp port false pn pl hq q hf fg false (aw (ab rst rst (0:Nat)).1) (aB (List.length (ab rst rst (0:Nat)).2.1) (aw (ab rst rst (0:Nat)).1) (0:Int) (ab rst rst (0:Nat)).2.1)).hf) ((RS.mk (ab rst rst (0:Nat)).1 us pw hk hs hn hp port false pn pl hq q hf fg false (aw (ab rst rst (0:Nat)).1) (aB (List.length (ab rst rst (0:Nat)).2.1) (aw (ab rst rst (0:Nat)).1) (0:Int) (ab rst rst (0:Nat)).2.1)).fg) ((RS.mk (ab rst rst (0:Nat)).1 us pw hk hs hn hp port false pn pl hq q hf fg false (aw (ab rst rst (0:Nat)).1) (aB (List.length (ab rst rst (0:Nat)).2.1) (aw (ab rst rst (0:Nat)).1) (0:Int) (ab rst rst (0:Nat)).2.1)).bare) ((RS.mk (ab rst rst (0:Nat)).1 us pw hk hs hn hp port false pn pl hq q hf fg false (aw (ab rst rst (0:Nat)).1) (aB (List.length (ab rst rst (0:Nat)).2.1) (aw (ab rst rst (0:Nat)).1) (0:Int) (ab rst rst (0:Nat)).2.1)).sp) ((RS.mk (ab rst rst (0:Nat)).1 us pw hk hs hn hp port false pn pl hq q hf fg false (aw (ab rst rst (0:Nat)).1) (aB (List.length (ab rst rst (0:Nat)).2.1) (aw (ab rst rst (0:Nat)).1) (0:Int) (ab rst rst (0:Nat)).2.1)).rst))]∧
 ((RS.mk sc us pw hk hs hn hp port false pn pl hq q hf fg bare sp rst).ao=(RS.mk (ab rst rst (0:Nat)).1 us pw hk hs hn hp port false pn pl hq q hf fg false (aw (ab rst rst (0:Nat)).1) (aB (List.length (ab rst rst (0:Nat)).2.1) (aw (ab rst rst (0:Nat)).1) (0:Int) (ab rst rst (0:Nat)).2.1)).b7∧
 List.length (RS.mk (ab rst rst (0:Nat)).1 us pw hk hs hn hp port false pn pl hq q hf fg false (aw (ab rst rst (0:Nat)).1) (aB (List.length (ab rst rst (0:Nat)).2.1) (aw (ab rst rst (0:Nat)).1) (0:Int) (ab rst rst (0:Nat)).2.1)).rst≤(300000:Nat)∧
 (RS.mk (ab rst rst (0:Nat)).1 us pw hk hs hn hp port false pn pl hq q hf fg false (aw (ab rst rst (0:Nat)).1) (aB (List.length (ab rst rst (0:Nat)).2.1) (aw (ab rst rst (0:Nat)).1) (0:Int) (ab rst rst (0:Nat)).2.1)).pl.length≤(100000:Nat))∧
 As k sc us pw hk hs hn hp port pn pl hq q hf fg bare sp rst)∧
 (aw (ab rst rst (0:Nat)).1=false→
 True∧
 ((aj (ab rst rst (0:Nat)).2.1 (ByteArray.mk #[47,47]).data.toList).2=true→
 VS.mk [] [(0,PV.ptr (0:Nat) (0:Nat)),(2,PV.int .i64 (0:Int)),(3,PV.int .i64 (0:Int)),(6,PV.bool !decide ((0:Int)=(0:Int))),(10,PV.bool false),(16,PV.bool (decide ((ab rst rst (0:Nat)).1=(ByteArray.mk #[102,105,108,101]).data.toList))),(26,PV.undef),(28,PV.bool true),(51,PV.bool (aw (ab rst rst (0:Nat)).1)),(58,PV.bool (aj (ab rst rst (0:Nat)).2.1 (ByteArray.mk #[47,47]).data.toList).2),(61,PV.undef),(71,PV.undef),(77,PV.undef),(81,PV.undef),(87,PV.undef),(97,PV.undef)] [((0:Nat),bT (PV.raw (Go.Value.pointer none)) 1 ((ab rst rst (0:Nat)).1) us pw hk hs hn hp port false pn pl hq q hf fg false (aw (ab rst rst (0:Nat)).1) ((aj (ab rst rst (0:Nat)).2.1 (ByteArray.mk #[47,47]).data.toList).1))]=VS.mk [] [(0,PV.ptr (0:Nat) (0:Nat)),(2,PV.int .i64 (0:Int)),(3,PV.int .i64 (0:Int)),(6,PV.bool !decide ((0:Int)=(0:Int))),(10,PV.bool false),(16,PV.bool (decide ((ab rst rst (0:Nat)).1=(ByteArray.mk #[102,105,108,101]).data.toList))),(26,PV.undef),(28,PV.bool true),(51,PV.bool (aw (ab rst rst (0:Nat)).1)),(58,PV.bool (aj (ab rst rst (0:Nat)).2.1 (ByteArray.mk #[47,47]).data.toList).2),(61,PV.undef),(71,PV.undef),(77,PV.undef),(81,PV.undef),(87,PV.undef),(97,PV.undef)] [((0:Nat),bT (PV.raw (Go.Value.pointer none)) 1 ((RS.mk (ab rst rst (0:Nat)).1 us pw hk hs hn hp port false pn pl hq q hf fg false (aw (ab rst rst (0:Nat)).1) (aj (ab rst rst (0:Nat)).2.1 (ByteArray.mk #[47,47]).data.toList).1).sc) ((RS.mk (ab rst rst (0:Nat)).1 us pw hk hs hn hp port false pn pl hq q hf fg false (aw (ab rst rst (0:Nat)).1) (aj (ab rst rst (0:Nat)).2.1 (ByteArray.mk #[47,47]).data.toList).1).us) ((RS.mk (ab rst rst (0:Nat)).1 us pw hk hs hn hp port false pn pl hq q hf fg false (aw (ab rst rst (0:Nat)).1) (aj (ab rst rst (0:Nat)).2.1 (ByteArray.mk #[47,47]).data.toList).1).pw) ((RS.mk (ab rst rst (0:Nat)).1 us pw hk hs hn hp port false pn pl hq q hf fg false (aw (ab rst rst (0:Nat)).1) (aj (ab rst rst (0:Nat)).2.1 (ByteArray.mk #[47,47]).data.toList).1).hk) ((RS.mk (ab rst rst (0:Nat)).1 us pw hk hs hn hp port false pn pl hq q hf fg false (aw (ab rst rst (0:Nat)).1) (aj (ab rst rst (0:Nat)).2.1 (ByteArray.mk #[47,47]).data.toList).1).hs) ((RS.mk (ab rst rst (0:Nat)).1 us pw hk hs hn hp port false pn pl hq q hf fg false (aw (ab rst rst (0:Nat)).1) (aj (ab rst rst (0:Nat)).2.1 (ByteArray.mk #[47,47]).data.toList).1).hn) ((RS.mk (ab rst rst (0:Nat)).1 us pw hk hs hn hp port false pn pl hq q hf fg false (aw (ab rst rst (0:Nat)).1) (aj (ab rst rst (0:Nat)).2.1 (ByteArray.mk #[47,47]).data.toList).1).hp) ((RS.mk (ab rst rst (0:Nat)).1 us pw hk hs hn hp port false pn pl hq q hf fg false (aw (ab rst rst (0:Nat)).1) (aj (ab rst rst (0:Nat)).2.1 (ByteArray.mk #[47,47]).data.toList).1).port) ((RS.mk (ab rst rst (0:Nat)).1 us pw hk hs hn hp port false pn pl hq q hf fg false (aw (ab rst rst (0:Nat)).1) (aj (ab rst rst (0:Nat)).2.1 (ByteArray.mk #[47,47]).data.toList).1).opq) ((RS.mk (ab rst rst (0:Nat)).1 us pw hk hs hn hp port false pn pl hq q hf fg false (aw (ab rst rst (0:Nat)).1) (aj (ab rst rst (0:Nat)).2.1 (ByteArray.mk #[47,47]).data.toList).1).pn) ((RS.mk (ab rst rst (0:Nat)).1 us pw hk hs hn hp port false pn pl hq q hf fg false (aw (ab rst rst (0:Nat)).1) (aj (ab rst rst (0:Nat)).2.1 (ByteArray.mk #[47,47]).data.toList).1).pl) ((RS.mk (ab rst rst (0:Nat)).1 us pw hk hs hn hp port false pn pl hq q hf fg false (aw (ab rst rst (0:Nat)).1) (aj (ab rst rst (0:Nat)).2.1 (ByteArray.mk #[47,47]).data.toList).1).hq) ((RS.mk (ab rst rst (0:Nat)).1 us pw hk hs hn hp port false pn pl hq q hf fg false (aw (ab rst rst (0:Nat)).1) (aj (ab rst rst (0:Nat)).2.1 (ByteArray.mk #[47,47]).data.toList).1).q) ((RS.mk (ab rst rst (0:Nat)).1 us pw hk hs hn hp port false pn pl hq q hf fg false (aw (ab rst rst (0:Nat)).1) (aj (ab rst rst (0:Nat)).2.1 (ByteArray.mk #[47,47]).data.toList).1).hf) ((RS.mk (ab rst rst (0:Nat)).1 us pw hk hs hn hp port false pn pl hq q hf fg false (aw (ab rst rst (0:Nat)).1) (aj (ab rst rst (0:Nat)).2.1 (ByteArray.mk #[47,47]).data.toList).1).fg) ((RS.mk (ab rst rst (0:Nat)).1 us pw hk hs hn hp port false pn pl hq q hf fg false (aw (ab rst rst (0:Nat)).1) (aj (ab rst rst (0:Nat)).2.1 (ByteArray.mk #[47,47]).data.toList).1).bare) ((RS.mk (ab rst rst (0:Nat)).1 us pw hk hs hn hp port false pn pl hq q hf fg false (aw (ab rst rst (0:Nat)).1) (aj (ab rst rst (0:Nat)).2.1 (ByteArray.mk #[47,47]).data.toList).1).sp) ((RS.mk (ab rst rst (0:Nat)).1 us pw hk hs hn hp port false pn pl hq q hf fg false (aw (ab rst rst (0:Nat)).1) (aj (ab rst rst (0:Nat)).2.1 (ByteArray.mk #[47,47]).data.toList).1).rst))]∧
 ((RS.mk sc us pw hk hs hn hp port false pn pl hq q hf fg bare sp rst).ao=(RS.mk (ab rst rst (0:Nat)).1 us pw hk hs hn hp port false pn pl hq q hf fg false (aw (ab rst rst (0:Nat)).1) (aj (ab rst rst (0:Nat)).2.1 (ByteArray.mk #[47,47]).data.toList).1).b7∧
 List.length (RS.mk (ab rst rst (0:Nat)).1 us pw hk hs hn hp port false pn pl hq q hf fg false (aw (ab rst rst (0:Nat)).1) (aj (ab rst rst (0:Nat)).2.1 (ByteArray.mk #[47,47]).data.toList).1).rst≤(300000:Nat)∧
 (RS.mk (ab rst rst (0:Nat)).1 us pw hk hs hn hp port false pn pl hq q hf fg false (aw (ab rst rst (0:Nat)).1) (aj (ab rst rst (0:Nat)).2.1 (ByteArray.mk #[47,47]).data.toList).1).pl.length≤(100000:Nat))∧
 As k sc us pw hk hs hn hp port pn pl hq q hf fg bare sp rst)∧
 ((aj (ab rst rst (0:Nat)).2.1 (ByteArray.mk #[47,47]).data.toList).2=false→
 True∧
 ((aj (aj (ab rst rst (0:Nat)).2.1 (ByteArray.mk #[47,47]).data.toList).1 (ByteArray.mk #[47]).data.toList).2=true→
 VS.mk [] [(0,PV.ptr (0:Nat) (0:Nat)),(2,PV.int .i64 (0:Int)),(3,PV.int .i64 (0:Int)),(6,PV.bool !decide ((0:Int)=(0:Int))),(10,PV.bool false),(16,PV.bool (decide ((ab rst rst (0:Nat)).1=(ByteArray.mk #[102,105,108,101]).data.toList))),(26,PV.undef),(28,PV.bool true),(51,PV.bool (aw (ab rst rst (0:Nat)).1)),(58,PV.bool (aj (ab rst rst (0:Nat)).2.1 (ByteArray.mk #[47,47]).data.toList).2),(61,PV.bool (aj (aj (ab rst rst (0:Nat)).2.1 (ByteArray.mk #[47,47]).data.toList).1 (ByteArray.mk #[47]).data.toList).2),(71,PV.undef),(77,PV.undef),(81,PV.undef),(87,PV.undef),(97,PV.undef)] [((0:Nat),bT (PV.raw (Go.Value.pointer none)) 1 ((ab rst rst (0:Nat)).1) us pw hk hs hn hp port false pn pl hq q hf fg false (aw (ab rst rst (0:Nat)).1) ((aj (aj (ab rst rst (0:Nat)).2.1 (ByteArray.mk #[47,47]).data.toList).1 (ByteArray.mk #[47]).data.toList).1))]=VS.mk [] [(0,PV.ptr (0:Nat) (0:Nat)),(2,PV.int .i64 (0:Int)),(3,PV.int .i64 (0:Int)),(6,PV.bool !decide ((0:Int)=(0:Int))),(10,PV.bool false),(16,PV.bool (decide ((ab rst rst (0:Nat)).1=(ByteArray.mk #[102,105,108,101]).data.toList))),(26,PV.undef),(28,PV.bool true),(51,PV.bool (aw (ab rst rst (0:Nat)).1)),(58,PV.bool (aj (ab rst rst (0:Nat)).2.1 (ByteArray.mk #[47,47]).data.toList).2),(61,PV.bool (aj (aj (ab rst rst (0:Nat)).2.1 (ByteArray.mk #[47,47]).data.toList).1 (ByteArray.mk #[47]).data.toList).2),(71,PV.undef),(77,PV.undef),(81,PV.undef),(87,PV.undef),(97,PV.undef)] [((0:Nat),bT (PV.raw (Go.Value.pointer none)) 1 ((RS.mk (ab rst rst (0:Nat)).1 us pw hk hs hn hp port false pn pl hq q hf fg false (aw (ab rst rst (0:Nat)).1) (aj (aj (ab rst rst (0:Nat)).2.1 (ByteArray.mk #[47,47]).data.toList).1 (ByteArray.mk #[47]).data.toList).1).sc) ((RS.mk (ab rst rst (0:Nat)).1 us pw hk hs hn hp port false pn pl hq q hf fg false (aw (ab rst rst (0:Nat)).1) (aj (aj (ab rst rst (0:Nat)).2.1 (ByteArray.mk #[47,47]).data.toList).1 (ByteArray.mk #[47]).data.toList).1).us) ((RS.mk (ab rst rst (0:Nat)).1 us pw hk hs hn hp port false pn pl hq q hf fg false (aw (ab rst rst (0:Nat)).1) (aj (aj (ab rst rst (0:Nat)).2.1 (ByteArray.mk #[47,47]).data.toList).1 (ByteArray.mk #[47]).data.toList).1).pw) ((RS.mk (ab rst rst (0:Nat)).1 us pw hk hs hn hp port false pn pl hq q hf fg false (aw (ab rst rst (0:Nat)).1) (aj (aj (ab rst rst (0:Nat)).2.1 (ByteArray.mk #[47,47]).data.toList).1 (ByteArray.mk #[47]).data.toList).1).hk) ((RS.mk (ab rst rst (0:Nat)).1 us pw hk hs hn hp port false pn pl hq q hf fg false (aw (ab rst rst (0:Nat)).1) (aj (aj (ab rst rst (0:Nat)).2.1 (ByteArray.mk #[47,47]).data.toList).1 (ByteArray.mk #[47]).data.toList).1).hs) ((RS.mk (ab rst rst (0:Nat)).1 us pw hk hs hn hp port false pn pl hq q hf fg false (aw (ab rst rst (0:Nat)).1) (aj (aj (ab rst rst (0:Nat)).2.1 (ByteArray.mk #[47,47]).data.toList).1 (ByteArray.mk #[47]).data.toList).1).hn) ((RS.mk (ab rst rst (0:Nat)).1 us pw hk hs hn hp port false pn pl hq q hf fg false (aw (ab rst rst (0:Nat)).1) (aj (aj (ab rst rst (0:Nat)).2.1 (ByteArray.mk #[47,47]).data.toList).1 (ByteArray.mk #[47]).data.toList).1).hp) ((RS.mk (ab rst rst (0:Nat)).1 us pw hk hs hn hp port false pn pl hq q hf fg false (aw (ab rst rst (0:Nat)).1) (aj (aj (ab rst rst (0:Nat)).2.1 (ByteArray.mk #[47,47]).data.toList).1 (ByteArray.mk #[47]).data.toList).1).port) ((RS.mk (ab rst rst (0:Nat)).1 us pw hk hs hn hp port false pn pl hq q hf fg false (aw (ab rst rst (0:Nat)).1) (aj (aj (ab rst rst (0:Nat)).2.1 (ByteArray.mk #[47,47]).data.toList).1 (ByteArray.mk #[47]).data.toList).1).opq) ((RS.mk (ab rst rst (0:Nat)).1 us pw hk hs hn hp port false pn pl hq q hf fg false (aw (ab rst rst (0:Nat)).1) (aj (aj (ab rst rst (0:Nat)).2.1 (ByteArray.mk #[47,47]).data.toList).1 (ByteArray.mk #[47]).data.toList).1).pn) ((RS.mk (ab rst rst (0:Nat)).1 us pw hk hs hn hp port false pn pl hq q hf fg false (aw (ab rst rst (0:Nat)).1) (aj (aj (ab rst rst (0:Nat)).2.1 (ByteArray.mk #[47,47]).data.toList).1 (ByteArray.mk #[47]).data.toList).1).pl) ((RS.mk (ab rst rst (0:Nat)).1 us pw hk hs hn hp port false pn pl hq q hf fg false (aw (ab rst rst (0:Nat)).1) (aj (aj (ab rst rst (0:Nat)).2.1 (ByteArray.mk #[47,47]).data.toList).1 (ByteArray.mk #[47]).data.toList).1).hq) ((RS.mk (ab rst rst (0:Nat)).1 us pw hk hs hn hp port false pn pl hq q hf fg false (aw (ab rst rst (0:Nat)).1) (aj (aj (ab rst rst (0:Nat)).2.1 (ByteArray.mk #[47,47]).data.toList).1 (ByteArray.mk #[47]).data.toList).1).q) ((RS.mk (ab rst rst (0:Nat)).1 us pw hk hs hn hp port false pn pl hq q hf fg false (aw (ab rst rst (0:Nat)).1) (aj (aj (ab rst rst (0:Nat)).2.1 (ByteArray.mk #[47,47]).data.toList).1 (ByteArray.mk #[47]).data.toList).1).hf) ((RS.mk (ab rst rst (0:Nat)).1 us pw hk hs hn hp port false pn pl hq q hf fg false (aw (ab rst rst (0:Nat)).1) (aj (aj (ab rst rst (0:Nat)).2.1 (ByteArray.mk #[47,47]).data.toList).1 (ByteArray.mk #[47]).data.toList).1).fg) ((RS.mk (ab rst rst (0:Nat)).1 us pw hk hs hn hp port false pn pl hq q hf fg false (aw (ab rst rst (0:Nat)).1) (aj (aj (ab rst rst (0:Nat)).2.1 (ByteArray.mk #[47,47]).data.toList).1 (ByteArray.mk #[47]).data.toList).1).bare) ((RS.mk (ab rst rst (0:Nat)).1 us pw hk hs hn hp port false pn pl hq q hf fg false (aw (ab rst rst (0:Nat)).1) (aj (aj (ab rst rst (0:Nat)).2.1 (ByteArray.mk #[47,47]).data.toList).1 (ByteArray.mk #[47]).data.toList).1).sp) ((RS.mk (ab rst rst (0:Nat)).1 us pw hk hs hn hp port false pn pl hq q hf fg false (aw (ab rst rst (0:Nat)).1) (aj (aj (ab rst rst (0:Nat)).2.1 (ByteArray.mk #[47,47]).data.toList).1 (ByteArray.mk #[47]).data.toList).1).rst))]∧
 ((RS.mk sc us pw hk hs hn hp port false pn pl hq q hf fg bare sp rst).ao=((RS.mk (ab rst rst (0:Nat)).1 us pw hk hs hn hp port false pn pl hq q hf fg false (aw (ab rst rst (0:Nat)).1) (aj (aj (ab rst rst (0:Nat)).2.1 (ByteArray.mk #[47,47]).data.toList).1 (ByteArray.mk #[47]).data.toList).1).path.tail,(0:Int))∧
 List.length (RS.mk (ab rst rst (0:Nat)).1 us pw hk hs hn hp port false pn pl hq q hf fg false (aw (ab rst rst (0:Nat)).1) (aj (aj (ab rst rst (0:Nat)).2.1 (ByteArray.mk #[47,47]).data.toList).1 (ByteArray.mk #[47]).data.toList).1).rst≤(300000:Nat)∧
 (RS.mk (ab rst rst (0:Nat)).1 us pw hk hs hn hp port false pn pl hq q hf fg false (aw (ab rst rst (0:Nat)).1) (aj (aj (ab rst rst (0:Nat)).2.1 (ByteArray.mk #[47,47]).data.toList).1 (ByteArray.mk #[47]).data.toList).1).pl.length≤(100000:Nat))∧
 ID k sc us pw hk hs hn hp port pn pl hq q hf fg bare sp rst)∧
 ((aj (aj (ab rst rst (0:Nat)).2.1 (ByteArray.mk #[47,47]).data.toList).1 (ByteArray.mk #[47]).data.toList).2=false→
 (List.length (aj (aj (ab rst rst (0:Nat)).2.1 (ByteArray.mk #[47,47]).data.toList).1 (ByteArray.mk #[47]).data.toList).1).le (300000:Nat)∧
 (aa (aj (aj (ab rst rst (0:Nat)).2.1 (ByteArray.mk #[47,47]).data.toList).1 (ByteArray.mk #[47]).data.toList).1 ↑(aE (aj (aj (ab rst rst (0:Nat)).2.1 (ByteArray.mk #[47,47]).data.toList).1 (ByteArray.mk #[47]).data.toList).1)).length.le (300000:Nat)∧
 (List.length (bG (aa (aj (aj (ab rst rst (0:Nat)).2.1 (ByteArray.mk #[47,47]).data.toList).1 (ByteArray.mk #[47]).data.toList).1 ↑(aE (aj (aj (ab rst rst (0:Nat)).2.1 (ByteArray.mk #[47,47]).data.toList).1 (ByteArray.mk #[47]).data.toList).1)))).le (300000:Nat)∧
 k (PV.int .i64 (0:Int)) [bT (PV.raw (Go.Value.pointer none)) 0 ((ab rst rst (0:Nat)).1) us pw hk hs hn hp port true false ([nz (ae (aj (aj (ab rst rst (0:Nat)).2.1 (ByteArray.mk #[47,47]).data.toList).1 (ByteArray.mk #[47]).data.toList).1 ↑(aE (aj (aj (ab rst rst (0:Nat)).2.1 (ByteArray.mk #[47,47]).data.toList).1 (ByteArray.mk #[47]).data.toList).1)) (aa (aj (aj (ab rst rst (0:Nat)).2.1 (ByteArray.mk #[47,47]).data.toList).1 (ByteArray.mk #[47]).data.toList).1 ↑(aE (aj (aj (ab rst rst (0:Nat)).2.1 (ByteArray.mk #[47,47]).data.toList).1 (ByteArray.mk #[47]).data.toList).1))]) (dW (aa (aj (aj (ab rst rst (0:Nat)).2.1 (ByteArray.mk #[47,47]).data.toList).1 (ByteArray.mk #[47]).data.toList).1 ↑(aE (aj (aj (ab rst rst (0:Nat)).2.1 (ByteArray.mk #[47,47]).data.toList).1 (ByteArray.mk #[47]).data.toList).1)) hq) (dX (aw (ab rst rst (0:Nat)).1) (aa (aj (aj (ab rst rst (0:Nat)).2.1 (ByteArray.mk #[47,47]).data.toList).1 (ByteArray.mk #[47]).data.toList).1 ↑(aE (aj (aj (ab rst rst (0:Nat)).2.1 (ByteArray.mk #[47,47]).data.toList).1 (ByteArray.mk #[47]).data.toList).1)) q) (dY (bG (aa (aj (aj (ab rst rst (0:Nat)).2.1 (ByteArray.mk #[47,47]).data.toList).1 (ByteArray.mk #[47]).data.toList).1 ↑(aE (aj (aj (ab rst rst (0:Nat)).2.1 (ByteArray.mk #[47,47]).data.toList).1 (ByteArray.mk #[47]).data.toList).1))) hf) (dZ (bG (aa (aj (aj (ab rst rst (0:Nat)).2.1 (ByteArray.mk #[47,47]).data.toList).1 (ByteArray.mk #[47]).data.toList).1 ↑(aE (aj (aj (ab rst rst (0:Nat)).2.1 (ByteArray.mk #[47,47]).data.toList).1 (ByteArray.mk #[47]).data.toList).1))) fg) false (aw (ab rst rst (0:Nat)).1) (eb (bG (aa (aj (aj (ab rst rst (0:Nat)).2.1 (ByteArray.mk #[47,47]).data.toList).1 (ByteArray.mk #[47]).data.toList).1 ↑(aE (aj (aj (ab rst rst (0:Nat)).2.1 (ByteArray.mk #[47,47]).data.toList).1 (ByteArray.mk #[47]).data.toList).1))))]))))))))):=by kernel_rfl
attribute [local irreducible] Go.Vc.cC Go.Vc.bK
theorem x3(sc us pw:Bs)(hk:Int)(hs:Bs)(hn:Int)(hp:List Int)(port:Int)(pn:Bool)(pl:List Bs)(hq:Bool)(q:Bs)(hf:Bool)(fg:Bs)(bare sp:Bool)(rst:Bs):bj Tryz.prog ay 47 [.ptr 0 0] [aC 1 (.raw (.pointer none)) sc us pw hk hs hn hp port false pn pl hq q hf fg bare sp rst] (rst.length≤300000∧pl.length≤100000∧(ab rst rst 0).2.2=true) (.int .i64 (RS.mk sc us pw hk hs hn hp port false pn pl hq q hf fg bare sp rst).ao.2) [aC 0 (.raw (.pointer none)) ((RS.mk sc us pw hk hs hn hp port false pn pl hq q hf fg bare sp rst).ao.1.sc) ((RS.mk sc us pw hk hs hn hp port false pn pl hq q hf fg bare sp rst).ao.1.us) ((RS.mk sc us pw hk hs hn hp port false pn pl hq q hf fg bare sp rst).ao.1.pw) ((RS.mk sc us pw hk hs hn hp port false pn pl hq q hf fg bare sp rst).ao.1.hk) ((RS.mk sc us pw hk hs hn hp port false pn pl hq q hf fg bare sp rst).ao.1.hs) ((RS.mk sc us pw hk hs hn hp port false pn pl hq q hf fg bare sp rst).ao.1.hn) ((RS.mk sc us pw hk hs hn hp port false pn pl hq q hf fg bare sp rst).ao.1.hp) ((RS.mk sc us pw hk hs hn hp port false pn pl hq q hf fg bare sp rst).ao.1.port) ((RS.mk sc us pw hk hs hn hp port false pn pl hq q hf fg bare sp rst).ao.1.opq) ((RS.mk sc us pw hk hs hn hp port false pn pl hq q hf fg bare sp rst).ao.1.pn) ((RS.mk sc us pw hk hs hn hp port false pn pl hq q hf fg bare sp rst).ao.1.pl) ((RS.mk sc us pw hk hs hn hp port false pn pl hq q hf fg bare sp rst).ao.1.hq) ((RS.mk sc us pw hk hs hn hp port false pn pl hq q hf fg bare sp rst).ao.1.q) ((RS.mk sc us pw hk hs hn hp port false pn pl hq q hf fg bare sp rst).ao.1.hf) ((RS.mk sc us pw hk hs hn hp port false pn pl hq q hf fg bare sp rst).ao.1.fg) ((RS.mk sc us pw hk hs hn hp port false pn pl hq q hf fg bare sp rst).ao.1.bare) ((RS.mk sc us pw hk hs hn hp port false pn pl hq q hf fg bare sp rst).ao.1.sp) ((RS.mk sc us pw hk hs hn hp port false pn pl hq q hf fg bare sp rst).ao.1.rst)]:=uh (by kernel_rfl) xZ (H:=xY sc us pw hk hs hn hp port pn pl hq q hf fg bare sp rst) (fuel:=1000) Tryz.func47 (by kernel_rfl) (Nat.le_of_ble_eq_true rfl) fun hpre=>(DH sc us pw hk hs hn hp port pn pl hq q hf fg bare sp rst _).mpr (by
 obtain ⟨hp1,hp2,hp3⟩:=hpre
 have hRl:=rj rst rst 0
 have hsch:(RS.mk sc us pw hk hs hn hp port false pn pl hq q hf fg bare sp rst).jf=(RS.mk (ab rst rst 0).1 us pw hk hs hn hp port false pn pl hq q hf fg false (aw (ab rst rst 0).1) (ab rst rst 0).2.1,0):=if_pos hp3
 have bA:=IF sc us pw hk hs hn hp port pn pl hq q hf fg bare sp rst
 have bB:=IE sc us pw hk hs hn hp port pn pl hq q hf fg bare sp rst
 have e0:(RS.mk sc us pw hk hs hn hp port false pn pl hq q hf fg bare sp rst).ao=(if(ab rst rst 0).1=fL then(if(RS.mk (ab rst rst 0).1 us pw hk hs hn hp port false pn pl hq q hf fg false (aw (ab rst rst 0).1) (ab rst rst 0).2.1).bb.2=0 then((RS.mk (ab rst rst 0).1 us pw hk hs hn hp port false pn pl hq q hf fg false (aw (ab rst rst 0).1) (ab rst rst 0).2.1).bb.1.tail,0)else(RS.mk (ab rst rst 0).1 us pw hk hs hn hp port false pn pl hq q hf fg false (aw (ab rst rst 0).1) (ab rst rst 0).2.1).bb)else if aw (ab rst rst 0).1=true then(RS.mk (ab rst rst 0).1 us pw hk hs hn hp port false pn pl hq q hf fg false (aw (ab rst rst 0).1) (ab rst rst 0).2.1).skip.b7 else if preB (ab rst rst 0).2.1 [47,47]=true then((RS.mk (ab rst rst 0).1 us pw hk hs hn hp port false pn pl hq q hf fg false (aw (ab rst rst 0).1) (ab rst rst 0).2.1).cut 2).b7 else if preB (ab rst rst 0).2.1 [47]=true then(((RS.mk (ab rst rst 0).1 us pw hk hs hn hp port false pn pl hq q hf fg false (aw (ab rst rst 0).1) (ab rst rst 0).2.1).cut 1).path.tail,0)else((RS.mk (ab rst rst 0).1 us pw hk hs hn hp port false pn pl hq q hf fg false (aw (ab rst rst 0).1) (ab rst rst 0).2.1).o8.tail,0)):=by
  unfold RS.ao
  rw [hsch]
  rfl
 generalize (ab rst rst 0).1=C at *
 generalize (ab rst rst 0).2.1=R at *
 have ef:(ByteArray.mk #[102,105,108,101]).data.toList=fL:=rfl
 have e22:(ByteArray.mk #[47,47]).data.toList=([47,47]:Bs):=rfl
 have e21:(ByteArray.mk #[47]).data.toList=([47]:Bs):=rfl
 have hR:R.length≤300000:=by omega
 have hQR:=iJ R
 have dz:∀(l:Bs) (z:Int),l.length≤300000→(aa l z).length≤300000:=fun l z h=>Nat.le_trans (cO l z) h
 have qz:∀l:Bs,l.length≤300000→(bG l).length≤300000:=fun l h=>Nat.le_trans (iJ l) h
 have c2t:preB R [47,47]=true→aj R (ByteArray.mk #[47,47]).data.toList=(aa R 2,true):=fun h=>by unfold aj;rw [e22,h];rfl
 have c2f:preB R [47,47]=false→aj R (ByteArray.mk #[47,47]).data.toList=(R,false):=fun h=>by unfold aj;rw [e22,h];rfl
 have c1t:preB R [47]=true→aj R (ByteArray.mk #[47]).data.toList=(aa R 1,true):=fun h=>by unfold aj;rw [e21,h];rfl
 have c1f:preB R [47]=false→aj R (ByteArray.mk #[47]).data.toList=(R,false):=fun h=>by unfold aj;rw [e21,h];rfl
 have hfl:=DG (RS.mk C us pw hk hs hn hp port false pn pl hq q hf fg false (aw C) R)
 have er:=Ar (RS.mk C us pw hk hs hn hp port false pn pl hq q hf fg false (aw C) R)
 refine ⟨⟨hp1,hp3⟩,fun h=>absurd h (by decide),fun _=>⟨fun h=>(by cases h),fun _=>⟨fun hC=>⟨⟨hR,hp2⟩,fun h3=>?_,fun h3=>⟨Nat.le_trans hfl hR,qz _ (Nat.le_trans hfl hR),?_⟩⟩,fun hC=>⟨fun _=>⟨fun hsp=>⟨trivial,fun _ h=>(by cases h),fun h=>(by cases h),fun _=>?_⟩,fun hsp=>⟨fun _ h=>(by cases h),fun h=>(by cases h),fun _=>?_⟩⟩,fun h=>absurd h (by decide)⟩⟩⟩⟩
 ·have h4:¬(RS.mk C us pw hk hs hn hp port false pn pl hq q hf fg false (aw C) R).bb.2=0:=by simpa using h3
  show KT (RS.mk sc us pw hk hs hn hp port false pn pl hq q hf fg bare sp rst).ao _ _
  rw [e0,if_pos (show C=fL from of_decide_eq_true hC),if_neg h4]
  exact ⟨rfl,congrArg (fun r=>[nR r]) er.symm⟩
 ·have h4:(RS.mk C us pw hk hs hn hp port false pn pl hq q hf fg false (aw C) R).bb.2=0:=by simpa using h3
  show KT (RS.mk sc us pw hk hs hn hp port false pn pl hq q hf fg bare sp rst).ao _ _
  rw [e0,if_pos (show C=fL from of_decide_eq_true hC),if_pos h4]
  refine ⟨rfl,?_⟩
  show _=[nR (RS.mk C us pw hk hs hn hp port false pn pl hq q hf fg false (aw C) R).bb.1.tail]
  rw [gT]
  have gen:∀G:RS,G={(RS.mk C us pw hk hs hn hp port false pn pl hq q hf fg false (aw C) R)with hk:=G.hk,hs:=G.hs,hn:=G.hn,hp:=G.hp,pn:=G.pn,pl:=G.pl,rst:=G.rst}→nR {(RS.mk C us pw hk hs hn hp port false pn pl hq q hf fg false (aw C) R)with hk:=G.hk,hs:=G.hs,hn:=G.hn,hp:=G.hp,pn:=G.pn,pl:=G.pl,hq:=dW G.rst hq,q:=dX (aw C) G.rst q,hf:=dY (bG G.rst) hf,fg:=dZ (bG G.rst) fg,rst:=eb (bG G.rst)}=nR {G with hq:=dW G.rst G.hq,q:=dX G.sp G.rst G.q,hf:=dY (bG G.rst) G.hf,fg:=dZ (bG G.rst) G.fg,rst:=eb (bG G.rst)}:=fun G e=>by
   have a1:G.sc=C:=(by have h:=congrArg RS.sc e;exact h)
   have a2:G.us=us:=(by have h:=congrArg RS.us e;exact h)
   have a3:G.pw=pw:=(by have h:=congrArg RS.pw e;exact h)
   have a4:G.port=port:=(by have h:=congrArg RS.port e;exact h)
   have a5:G.opq=false:=(by have h:=congrArg RS.opq e;exact h)
   have a6:G.hq=hq:=(by have h:=congrArg RS.hq e;exact h)
   have a7:G.q=q:=(by have h:=congrArg RS.q e;exact h)
   have a8:G.hf=hf:=(by have h:=congrArg RS.hf e;exact h)
   have a9:G.fg=fg:=(by have h:=congrArg RS.fg e;exact h)
   have a10:G.bare=false:=(by have h:=congrArg RS.bare e;exact h)
   have a11:G.sp=aw C:=(by have h:=congrArg RS.sp e;exact h)
   simp only [a1,a2,a3,a4,a5,a6,a7,a8,a9,a10,a11]
  exact congrArg (fun y=>[y]) (gen _ er)
 ·have hC':¬C=fL:=of_decide_eq_false hC
  refine ⟨fun h=>⟨hR,rfl,⟨?_,Nat.le_trans (ri _ _ _ _) hR,hp2⟩,bA⟩,fun h=>⟨trivial,?_⟩⟩
  ·rw [e0,if_neg hC',if_pos h];rfl
  have h':¬aw C=true:=by rw [h];decide
  cases h2:preB R [47,47]with
  |true=>
   rw [c2t h2]
   refine ⟨fun _=>⟨rfl,⟨?_,dz _ _ hR,hp2⟩,bA⟩,fun h=>(by cases h)⟩
   rw [e0,if_neg hC',if_neg h',if_pos h2];rfl
  |false=>
   rw [c2f h2]
   refine ⟨fun h=>(by cases h),fun _=>⟨trivial,?_⟩⟩
   show(_=true→_)∧(_=false→_)
   have h2':¬preB R [47,47]=true:=by rw [h2];decide
   cases h1:preB R [47]with
   |true=>
    rw [c1t h1]
    refine ⟨fun _=>⟨rfl,⟨?_,dz _ _ hR,hp2⟩,bB⟩,fun h=>(by cases h)⟩
    rw [e0,if_neg hC',if_neg h',if_neg h2',if_pos h1];rfl
   |false=>
    rw [c1f h1]
    have h1':¬preB R [47]=true:=by rw [h1];decide
    refine ⟨fun h=>(by cases h),fun _=>⟨hR,dz _ _ hR,qz _ (dz _ _ hR),?_⟩⟩
    show KT (RS.mk sc us pw hk hs hn hp port false pn pl hq q hf fg bare sp rst).ao _ _
    rw [e0,if_neg hC',if_neg h',if_neg h2',if_neg h1']
    refine ⟨rfl,?_⟩
    show _=[nR (RS.mk C us pw hk hs hn hp port false pn pl hq q hf fg false (aw C) R).o8.tail]
    rw [gT]
    rfl
 ·have hC':¬C=fL:=of_decide_eq_false hC
  refine ⟨fun h=>⟨hR,rfl,⟨?_,Nat.le_trans (ri _ _ _ _) hR,hp2⟩,bA⟩,fun h=>⟨trivial,?_⟩⟩
  ·rw [e0,if_neg hC',if_pos h];rfl
  have h':¬aw C=true:=by rw [h];decide
  cases h2:preB R [47,47]with
  |true=>
   rw [c2t h2]
   refine ⟨fun _=>⟨rfl,⟨?_,dz _ _ hR,hp2⟩,bA⟩,fun h=>(by cases h)⟩
   rw [e0,if_neg hC',if_neg h',if_pos h2];rfl
  |false=>
   rw [c2f h2]
   refine ⟨fun h=>(by cases h),fun _=>⟨trivial,?_⟩⟩
   show(_=true→_)∧(_=false→_)
   have h2':¬preB R [47,47]=true:=by rw [h2];decide
   cases h1:preB R [47]with
   |true=>
    rw [c1t h1]
    refine ⟨fun _=>⟨rfl,⟨?_,dz _ _ hR,hp2⟩,bB⟩,fun h=>(by cases h)⟩
    rw [e0,if_neg hC',if_neg h',if_neg h2',if_pos h1];rfl
   |false=>
    rw [c1f h1]
    have h1':¬preB R [47]=true:=by rw [h1];decide
    refine ⟨fun h=>(by cases h),fun _=>⟨hR,dz _ _ hR,qz _ (dz _ _ hR),?_⟩⟩
    show KT (RS.mk sc us pw hk hs hn hp port false pn pl hq q hf fg bare sp rst).ao _ _
    rw [e0,if_neg hC',if_neg h',if_neg h2',if_neg h1']
    refine ⟨rfl,?_⟩
    show _=[nR (RS.mk C us pw hk hs hn hp port false pn pl hq q hf fg false (aw C) R).o8.tail]
    rw [gT]
    rfl)
end
theorem x4(sc us pw:Bs)(hk:Int)(hs:Bs)(hn:Int)(hp:List Int)(port:Int)(pn:Bool)(pl:List Bs)(hq:Bool)(q:Bs)(hf:Bool)(fg:Bs)(bare sp:Bool)(rst:Bs):bj Tryz.prog ay 47 [.ptr 0 0] [aC 1 (.raw (.pointer none)) sc us pw hk hs hn hp port false pn pl hq q hf fg bare sp rst] (rst.length≤300000∧pl.length≤100000) (.int .i64 (RS.mk sc us pw hk hs hn hp port false pn pl hq q hf fg bare sp rst).ao.2) [aC 0 (.raw (.pointer none)) ((RS.mk sc us pw hk hs hn hp port false pn pl hq q hf fg bare sp rst).ao.1.sc) ((RS.mk sc us pw hk hs hn hp port false pn pl hq q hf fg bare sp rst).ao.1.us) ((RS.mk sc us pw hk hs hn hp port false pn pl hq q hf fg bare sp rst).ao.1.pw) ((RS.mk sc us pw hk hs hn hp port false pn pl hq q hf fg bare sp rst).ao.1.hk) ((RS.mk sc us pw hk hs hn hp port false pn pl hq q hf fg bare sp rst).ao.1.hs) ((RS.mk sc us pw hk hs hn hp port false pn pl hq q hf fg bare sp rst).ao.1.hn) ((RS.mk sc us pw hk hs hn hp port false pn pl hq q hf fg bare sp rst).ao.1.hp) ((RS.mk sc us pw hk hs hn hp port false pn pl hq q hf fg bare sp rst).ao.1.port) ((RS.mk sc us pw hk hs hn hp port false pn pl hq q hf fg bare sp rst).ao.1.opq) ((RS.mk sc us pw hk hs hn hp port false pn pl hq q hf fg bare sp rst).ao.1.pn) ((RS.mk sc us pw hk hs hn hp port false pn pl hq q hf fg bare sp rst).ao.1.pl) ((RS.mk sc us pw hk hs hn hp port false pn pl hq q hf fg bare sp rst).ao.1.hq) ((RS.mk sc us pw hk hs hn hp port false pn pl hq q hf fg bare sp rst).ao.1.q) ((RS.mk sc us pw hk hs hn hp port false pn pl hq q hf fg bare sp rst).ao.1.hf) ((RS.mk sc us pw hk hs hn hp port false pn pl hq q hf fg bare sp rst).ao.1.fg) ((RS.mk sc us pw hk hs hn hp port false pn pl hq q hf fg bare sp rst).ao.1.bare) ((RS.mk sc us pw hk hs hn hp port false pn pl hq q hf fg bare sp rst).ao.1.sp) ((RS.mk sc us pw hk hs hn hp port false pn pl hq q hf fg bare sp rst).ao.1.rst)]:=fun hpre=>by
 cases hb:(ab rst rst 0).2.2 with
 |true=>exact x3 sc us pw hk hs hn hp port pn pl hq q hf fg bare sp rst ⟨hpre.1,hpre.2,hb⟩
 |false=>exact xW sc us pw hk hs hn hp port pn pl hq q hf fg bare sp rst ⟨hpre.1,hb⟩
def DI:PV→PV
 |.row true (.strs []) 0=>.row true (.strs []) 1
 |y=>y
theorem x5 {G:Gh}{w:World}{y:PV}{u:Value}(h:aP y G w u):aP (DI y) G w u:=by
 unfold DI
 split
 ·rcases h with⟨h1,h2,h3⟩|⟨h1,-⟩
  ·exact .inl ⟨h1,h2,h3⟩
  ·cases h1
 ·exact h
theorem x6(y:PV):(DI y).wid=y.wid:=by
 unfold DI
 split<;>rfl
theorem x7(sc us pw:Bs)(hk:Int)(hs:Bs)(hn:Int)(hp:List Int)(port:Int)(hq:Bool)(q:Bs)(hf:Bool)(fg:Bs)(bare sp:Bool)(rst:Bs):bj Tryz.prog ay 47 [.ptr 0 0] [aC 0 (.raw (.pointer none)) sc us pw hk hs hn hp port false true [] hq q hf fg bare sp rst] (rst.length≤300000) (.int .i64 (RS.mk sc us pw hk hs hn hp port false true ([]:List Bs) hq q hf fg bare sp rst).ao.2) [aC 0 (.raw (.pointer none)) ((RS.mk sc us pw hk hs hn hp port false true ([]:List Bs) hq q hf fg bare sp rst).ao.1.sc) ((RS.mk sc us pw hk hs hn hp port false true ([]:List Bs) hq q hf fg bare sp rst).ao.1.us) ((RS.mk sc us pw hk hs hn hp port false true ([]:List Bs) hq q hf fg bare sp rst).ao.1.pw) ((RS.mk sc us pw hk hs hn hp port false true ([]:List Bs) hq q hf fg bare sp rst).ao.1.hk) ((RS.mk sc us pw hk hs hn hp port false true ([]:List Bs) hq q hf fg bare sp rst).ao.1.hs) ((RS.mk sc us pw hk hs hn hp port false true ([]:List Bs) hq q hf fg bare sp rst).ao.1.hn) ((RS.mk sc us pw hk hs hn hp port false true ([]:List Bs) hq q hf fg bare sp rst).ao.1.hp) ((RS.mk sc us pw hk hs hn hp port false true ([]:List Bs) hq q hf fg bare sp rst).ao.1.port) ((RS.mk sc us pw hk hs hn hp port false true ([]:List Bs) hq q hf fg bare sp rst).ao.1.opq) ((RS.mk sc us pw hk hs hn hp port false true ([]:List Bs) hq q hf fg bare sp rst).ao.1.pn) ((RS.mk sc us pw hk hs hn hp port false true ([]:List Bs) hq q hf fg bare sp rst).ao.1.pl) ((RS.mk sc us pw hk hs hn hp port false true ([]:List Bs) hq q hf fg bare sp rst).ao.1.hq) ((RS.mk sc us pw hk hs hn hp port false true ([]:List Bs) hq q hf fg bare sp rst).ao.1.q) ((RS.mk sc us pw hk hs hn hp port false true ([]:List Bs) hq q hf fg bare sp rst).ao.1.hf) ((RS.mk sc us pw hk hs hn hp port false true ([]:List Bs) hq q hf fg bare sp rst).ao.1.fg) ((RS.mk sc us pw hk hs hn hp port false true ([]:List Bs) hq q hf fg bare sp rst).ao.1.bare) ((RS.mk sc us pw hk hs hn hp port false true ([]:List Bs) hq q hf fg bare sp rst).ao.1.sp) ((RS.mk sc us pw hk hs hn hp port false true ([]:List Bs) hq q hf fg bare sp rst).ao.1.rst)]:=fun hpre F w vs bs τ hF hT hw hb hτ hl hx=>
 x4 sc us pw hk hs hn hp port true [] hq q hf fg bare sp rst ⟨hpre,Nat.zero_le _⟩ F w vs bs τ hF hT hw hb hτ ⟨hl.len,hl.nd,hl.bF,hl.mks,hl.inj,fun i x hx=>by
  cases i with
  |succ i=>cases hx
  |zero=>
   injection hx with hx
   subst hx
   obtain ⟨b,h1,u,e,fz,g1,g2,g3,g4,g5⟩:=hl.box 0 _ rfl
   exact ⟨b,h1,u,e,fz,g1,g2,aP.map (f:=DI) (fun y v _ hy=>x5 hy) (fun y _=>x6 y) g3,g4,g5⟩⟩ hx
theorem DJ(sc us pw:Bs)(hk:Int)(hs:Bs)(hn:Int)(hp:List Int)(port:Int)(hq:Bool)(q:Bs)(hf:Bool)(fg:Bs)(bare sp:Bool)(rst:Bs):ag Tryz.prog ay 47 [.ptr 0 0,aC 0 (.raw (.pointer none)) sc us pw hk hs hn hp port false true [] hq q hf fg bare sp rst] ⟨rst.length≤300000,.tup [.int .i64 (RS.mk sc us pw hk hs hn hp port false true ([]:List Bs) hq q hf fg bare sp rst).ao.2,aC 0 (.raw (.pointer none)) ((RS.mk sc us pw hk hs hn hp port false true ([]:List Bs) hq q hf fg bare sp rst).ao.1.sc) ((RS.mk sc us pw hk hs hn hp port false true ([]:List Bs) hq q hf fg bare sp rst).ao.1.us) ((RS.mk sc us pw hk hs hn hp port false true ([]:List Bs) hq q hf fg bare sp rst).ao.1.pw) ((RS.mk sc us pw hk hs hn hp port false true ([]:List Bs) hq q hf fg bare sp rst).ao.1.hk) ((RS.mk sc us pw hk hs hn hp port false true ([]:List Bs) hq q hf fg bare sp rst).ao.1.hs) ((RS.mk sc us pw hk hs hn hp port false true ([]:List Bs) hq q hf fg bare sp rst).ao.1.hn) ((RS.mk sc us pw hk hs hn hp port false true ([]:List Bs) hq q hf fg bare sp rst).ao.1.hp) ((RS.mk sc us pw hk hs hn hp port false true ([]:List Bs) hq q hf fg bare sp rst).ao.1.port) ((RS.mk sc us pw hk hs hn hp port false true ([]:List Bs) hq q hf fg bare sp rst).ao.1.opq) ((RS.mk sc us pw hk hs hn hp port false true ([]:List Bs) hq q hf fg bare sp rst).ao.1.pn) ((RS.mk sc us pw hk hs hn hp port false true ([]:List Bs) hq q hf fg bare sp rst).ao.1.pl) ((RS.mk sc us pw hk hs hn hp port false true ([]:List Bs) hq q hf fg bare sp rst).ao.1.hq) ((RS.mk sc us pw hk hs hn hp port false true ([]:List Bs) hq q hf fg bare sp rst).ao.1.q) ((RS.mk sc us pw hk hs hn hp port false true ([]:List Bs) hq q hf fg bare sp rst).ao.1.hf) ((RS.mk sc us pw hk hs hn hp port false true ([]:List Bs) hq q hf fg bare sp rst).ao.1.fg) ((RS.mk sc us pw hk hs hn hp port false true ([]:List Bs) hq q hf fg bare sp rst).ao.1.bare) ((RS.mk sc us pw hk hs hn hp port false true ([]:List Bs) hq q hf fg bare sp rst).ao.1.sp) ((RS.mk sc us pw hk hs hn hp port false true ([]:List Bs) hq q hf fg bare sp rst).ao.1.rst)]⟩:=ag.aZ (fun h=>by have e:List.isEmpty (PV.aA PV.br [.ptr 0 0,aC 0 (.raw (.pointer none)) sc us pw hk hs hn hp port false true [] hq q hf fg bare sp rst])=false:=(by kernel_rfl);exact Bool.noConfusion (e.symm.trans (congrArg List.isEmpty h))) (x7 sc us pw hk hs hn hp port hq q hf fg bare sp rst)
def ly:List PV→Option aI:=fun xs=>match xs with
 |[.ptr 0 0,aC 0 (.raw (.pointer none)) sc us pw hk hs hn hp port false true [] hq q hf fg bare sp rst]=>some ⟨rst.length≤300000,.tup [.int .i64 (RS.mk sc us pw hk hs hn hp port false true ([]:List Bs) hq q hf fg bare sp rst).ao.2,aC 0 (.raw (.pointer none)) ((RS.mk sc us pw hk hs hn hp port false true ([]:List Bs) hq q hf fg bare sp rst).ao.1.sc) ((RS.mk sc us pw hk hs hn hp port false true ([]:List Bs) hq q hf fg bare sp rst).ao.1.us) ((RS.mk sc us pw hk hs hn hp port false true ([]:List Bs) hq q hf fg bare sp rst).ao.1.pw) ((RS.mk sc us pw hk hs hn hp port false true ([]:List Bs) hq q hf fg bare sp rst).ao.1.hk) ((RS.mk sc us pw hk hs hn hp port false true ([]:List Bs) hq q hf fg bare sp rst).ao.1.hs) ((RS.mk sc us pw hk hs hn hp port false true ([]:List Bs) hq q hf fg bare sp rst).ao.1.hn) ((RS.mk sc us pw hk hs hn hp port false true ([]:List Bs) hq q hf fg bare sp rst).ao.1.hp) ((RS.mk sc us pw hk hs hn hp port false true ([]:List Bs) hq q hf fg bare sp rst).ao.1.port) ((RS.mk sc us pw hk hs hn hp port false true ([]:List Bs) hq q hf fg bare sp rst).ao.1.opq) ((RS.mk sc us pw hk hs hn hp port false true ([]:List Bs) hq q hf fg bare sp rst).ao.1.pn) ((RS.mk sc us pw hk hs hn hp port false true ([]:List Bs) hq q hf fg bare sp rst).ao.1.pl) ((RS.mk sc us pw hk hs hn hp port false true ([]:List Bs) hq q hf fg bare sp rst).ao.1.hq) ((RS.mk sc us pw hk hs hn hp port false true ([]:List Bs) hq q hf fg bare sp rst).ao.1.q) ((RS.mk sc us pw hk hs hn hp port false true ([]:List Bs) hq q hf fg bare sp rst).ao.1.hf) ((RS.mk sc us pw hk hs hn hp port false true ([]:List Bs) hq q hf fg bare sp rst).ao.1.fg) ((RS.mk sc us pw hk hs hn hp port false true ([]:List Bs) hq q hf fg bare sp rst).ao.1.bare) ((RS.mk sc us pw hk hs hn hp port false true ([]:List Bs) hq q hf fg bare sp rst).ao.1.sp) ((RS.mk sc us pw hk hs hn hp port false true ([]:List Bs) hq q hf fg bare sp rst).ao.1.rst)]⟩
 |_=>none
theorem rW:∀xs c,ly xs=some c→ag Tryz.prog ay 47 xs c:=fun xs c h=>by
 unfold ly at h
 split at h
 ·injection h with h;subst h;exact DJ _ _ _ _ _ _ _ _ _ _ _ _ _ _ _
 ·cases h
section
theorem tH(l:Bs):(an l).length≤4*l.length:=by
 have h1:=qv l
 have h2:(da (bP l)).length≤(bP l).length:=(List.dropWhile_sublist _).length_le
 have h3:(eJ (da (bP l))).length≤(da (bP l)).length:=by
  unfold eJ
  rw [List.length_reverse]
  exact Nat.le_trans (List.dropWhile_sublist _).length_le (by rw [List.length_reverse];exact Nat.le_refl _)
 have h4:(an l).length≤(eJ (da (bP l))).length:=List.length_filter_le _ _
 omega
def BO:cq:=bN [(46,km),(47,ly)]
def BP(l:Bs):aY:=fun i=>none
theorem Au:cS Tryz.prog ay BO:=ai mn (ai rW (ax))
theorem Gw(l:Bs)(k:PV→Prop):cC Tryz.prog BO ay (BP l) 1000 Tryz.f30 [.str l,.raw (.pointer none)] k=(
 (decide ((1048576:Int)<ak l)=true→
 k
 (PV.tup
 [bD (0:Nat) [] [] [] (0:Int) [] (0:Int) (List.replicate (8:Nat) (0:Int)) (0:Int) false true [] false [] false [],
 PV.int .i64 (6:Int)]))∧
 (decide ((1048576:Int)<ak l)=false→
 (List.length l).le (60000:Nat)∧
 (List.length (an l)).le (300000:Nat)∧
 ((!decide
 ((RS.mk [] [] [] (0:Int) [] (0:Int) (List.replicate (8:Nat) (0:Int)) (-1:Int) false true []
 false [] false [] false false (an l)).ao.2=
 (0:Int)))=
 true→
 k
 (PV.tup
 [bD (0:Nat) [] [] [] (0:Int) [] (0:Int) (List.replicate (8:Nat) (0:Int)) (0:Int) false true [] false [] false [],
 PV.int .i64
 (RS.mk [] [] [] (0:Int) [] (0:Int) (List.replicate (8:Nat) (0:Int)) (-1:Int) false true []
 false [] false [] false false (an l)).ao.2]))∧
 ((!decide
 ((RS.mk [] [] [] (0:Int) [] (0:Int) (List.replicate (8:Nat) (0:Int)) (-1:Int) false true []
 false [] false [] false false (an l)).ao.2=
 (0:Int)))=
 false→
 k
 (PV.tup
 [bD (0:Nat) (RS.mk [] [] [] (0:Int) [] (0:Int) (List.replicate (8:Nat) (0:Int)) (-1:Int) false true []
 false [] false [] false false (an l)).ao.1.sc (RS.mk [] [] [] (0:Int) [] (0:Int) (List.replicate (8:Nat) (0:Int)) (-1:Int) false true []
 false [] false [] false false (an l)).ao.1.us (RS.mk [] [] [] (0:Int) [] (0:Int) (List.replicate (8:Nat) (0:Int)) (-1:Int) false true []
 false [] false [] false false (an l)).ao.1.pw (RS.mk [] [] [] (0:Int) [] (0:Int) (List.replicate (8:Nat) (0:Int)) (-1:Int) false
 true [] false [] false [] false false (an l)).ao.1.hk (RS.mk [] [] [] (0:Int) [] (0:Int) (List.replicate (8:Nat) (0:Int)) (-1:Int) false
 true [] false [] false [] false false (an l)).ao.1.hs (RS.mk [] [] [] (0:Int) [] (0:Int) (List.replicate (8:Nat) (0:Int)) (-1:Int) false
 true [] false [] false [] false false (an l)).ao.1.hn (RS.mk [] [] [] (0:Int) [] (0:Int) (List.replicate (8:Nat) (0:Int)) (-1:Int) false
 true [] false [] false [] false false (an l)).ao.1.hp (RS.mk [] [] [] (0:Int) [] (0:Int) (List.replicate (8:Nat) (0:Int)) (-1:Int) false true []
 false [] false [] false false (an l)).ao.1.port (RS.mk [] [] [] (0:Int) [] (0:Int) (List.replicate (8:Nat) (0:Int)) (-1:Int) false true []
 false [] false [] false false (an l)).ao.1.opq (RS.mk [] [] [] (0:Int) [] (0:Int) (List.replicate (8:Nat) (0:Int)) (-1:Int) false true []
 false [] false [] false false (an l)).ao.1.pn (RS.mk [] [] [] (0:Int) [] (0:Int) (List.replicate (8:Nat) (0:Int)) (-1:Int) false true
 [] false [] false [] false false (an l)).ao.1.pl (RS.mk [] [] [] (0:Int) [] (0:Int) (List.replicate (8:Nat) (0:Int)) (-1:Int) false true []
 false [] false [] false false (an l)).ao.1.hq (RS.mk [] [] [] (0:Int) [] (0:Int) (List.replicate (8:Nat) (0:Int)) (-1:Int) false true []
 false [] false [] false false (an l)).ao.1.q (RS.mk [] [] [] (0:Int) [] (0:Int) (List.replicate (8:Nat) (0:Int)) (-1:Int) false true []
 false [] false [] false false (an l)).ao.1.hf (RS.mk [] [] [] (0:Int) [] (0:Int) (List.replicate (8:Nat) (0:Int)) (-1:Int) false true []
 false [] false [] false false (an l)).ao.1.fg,
 PV.int .i64 (0:Int)])))):=by kernel_rfl
attribute [local irreducible] Go.Vc.cC
theorem Gy(l:Bs):ag Tryz.prog ay 30 [.str l,.raw (.pointer none)] ⟨l.length≤60000,.tup [bD 0 ((bz l).1).sc ((bz l).1).us ((bz l).1).pw ((bz l).1).hk ((bz l).1).hs ((bz l).1).hn ((bz l).1).hp ((bz l).1).port ((bz l).1).opq ((bz l).1).pn ((bz l).1).pl ((bz l).1).hq ((bz l).1).q ((bz l).1).hf ((bz l).1).fg,.int .i64 (bz l).2]⟩:=cj (by kernel_rfl) Au (H:=BP l) (fuel:=1000) Tryz.func30 (by kernel_rfl) fun hpre=>(Gw l _).mpr (by
 have hs:=tH l
 refine ⟨fun h=>absurd (of_decide_eq_true h) (by unfold ak;omega),fun _=>⟨show l.length≤60000 from hpre,show(an l).length≤300000 by omega,fun h=>?_,fun h=>?_⟩⟩
 ·have h2:(!decide ((RS.init (an l)).ao.2=0))=true:=h
  have h':¬(RS.init (an l)).ao.2=0:=fun e=>by rw [decide_eq_true e]at h2;cases h2
  have e:bz l=(KP,(RS.init (an l)).ao.2):=if_neg h'
  rw [e];rfl
 ·have h2:(!decide ((RS.init (an l)).ao.2=0))=false:=h
  have h':(RS.init (an l)).ao.2=0:=Classical.byContradiction fun e=>by rw [decide_eq_false e]at h2;cases h2
  have e:bz l=(RS.init (an l)).ao:=if_pos h'
  rw [e,h'];rfl)
def nS:List PV→Option aI:=fun xs=>match xs with
 |[.str l,.raw (.pointer none)]=>some ⟨l.length≤60000,.tup [bD 0 ((bz l).1).sc ((bz l).1).us ((bz l).1).pw ((bz l).1).hk ((bz l).1).hs ((bz l).1).hn ((bz l).1).hp ((bz l).1).port ((bz l).1).opq ((bz l).1).pn ((bz l).1).pl ((bz l).1).hq ((bz l).1).q ((bz l).1).hf ((bz l).1).fg,.int .i64 (bz l).2]⟩
 |_=>none
theorem vy:∀xs c,nS xs=some c→ag Tryz.prog ay 30 xs c:=fun xs c h=>by
 unfold nS at h
 split at h
 ·injection h with h;subst h;exact Gy _
 ·cases h
end
section
def x8:cq:=bN [(30,nS)]
def x9(l:Bs):aY:=fun i=>none
theorem ya:cS Tryz.prog ay x8:=ai vy (ax)
theorem DK(l:Bs)(k:PV→Prop):cC Tryz.prog x8 ay (x9 l) 1000 Tryz.f19 [.str l] k=(
 (List.length l).le (60000:Nat)∧
 k
 (PV.tup
 [bD (0:Nat) (bz l).1.sc (bz l).1.us (bz l).1.pw (bz l).1.hk (bz l).1.hs (bz l).1.hn (bz l).1.hp (bz l).1.port (bz l).1.opq (bz l).1.pn (bz l).1.pl (bz l).1.hq (bz l).1.q (bz l).1.hf (bz l).1.fg,
 PV.int .i64 (bz l).2])):=by kernel_rfl
attribute [local irreducible] Go.Vc.cC
theorem DL(l:Bs):ag Tryz.prog ay 19 [.str l] ⟨l.length≤60000,.tup [bD 0 ((bz l).1).sc ((bz l).1).us ((bz l).1).pw ((bz l).1).hk ((bz l).1).hs ((bz l).1).hn ((bz l).1).hp ((bz l).1).port ((bz l).1).opq ((bz l).1).pn ((bz l).1).pl ((bz l).1).hq ((bz l).1).q ((bz l).1).hf ((bz l).1).fg,.int .i64 (bz l).2]⟩:=cj (by kernel_rfl) ya (H:=x9 l) (fuel:=1000) Tryz.func19 (by kernel_rfl) fun hpre=>(DK l _).mpr (by
 exact ⟨hpre,rfl⟩)
end
theorem vz {α:Type}(x y:List α)(c:α):(x++c::y)[x.length]?=some c:=by simp
theorem IG {x y:Bs}{c:UInt8}(h:c∉x):Lib.indexByte (x++c::y) c=x.length:=by
 rcases Int.lt_or_le (Lib.indexByte (x++c::y) c) 0 with h2|h2
 ·have:=Lib.indexByte_ge (x++c::y) c
  exact absurd (vz x y c) (Lib.indexByte_none (show Lib.indexByte (x++c::y) c=-1 by omega) _)
 ·obtain ⟨o,ho⟩:=Int.eq_ofNat_of_zero_le h2
  obtain ⟨h3,h4⟩:=Lib.indexByte_some ho
  rw [ho]
  rcases Nat.lt_trichotomy o x.length with h5|h5|h5
  ·rw [List.getElem?_append_left h5]at h3
   exact absurd (List.mem_of_getElem? h3) h
  ·rw [h5]
  ·exact absurd (vz x y c) (h4 _ h5)
theorem Kg {x:Bs}{c:UInt8}(h:c∉x):Lib.indexByte x c<0:=by
 rcases Int.lt_or_le (Lib.indexByte x c) 0 with h2|h2
 ·exact h2
 ·obtain ⟨o,ho⟩:=Int.eq_ofNat_of_zero_le h2
  exact absurd (List.mem_of_getElem? (Lib.indexByte_some ho).1) h
theorem Av {x y:Bs}{c:UInt8}(h:c∉x):cK (x++c::y) c=x∧cU (x++c::y) c=y:=by
 have e:=IG (y:=y) h
 unfold cK cU
 rw [e,if_pos (by omega),if_pos (by omega),Int.toNat_natCast]
 refine ⟨List.take_left,?_⟩
 rw [←List.drop_drop,List.drop_left];rfl
theorem Aw {x:Bs}{c:UInt8}(h:c∉x):cK x c=x∧cU x c=[]:=by
 have e:=Kg h
 unfold cK cU
 rw [if_neg (by omega),if_neg (by omega)]
 exact ⟨rfl,rfl⟩
theorem yb {x y:Bs}{c:UInt8}(h:c∉y):aF (x++c::y) c.toNat=x.length:=by
 rw [qm]
 have at_:∀i,i<(x++c::y).length→((⟨(x++c::y).toArray⟩:ByteArray).data[i]!)=(x++c::y).getD i 0:=fun i hi=>by
  rw [List.getD_eq_getElem?_getD,List.getElem?_eq_getElem hi]
  simp only [getElem!_def]
  rw [show(x++c::y).toArray[i]?=(x++c::y)[i]?by simp,List.getElem?_eq_getElem hi];rfl
 have sz:(⟨(x++c::y).toArray⟩:ByteArray).size=(x++c::y).length:=by simp [ByteArray.size]
 have len:(x++c::y).length=x.length+y.length+1:=by rw [List.length_append,List.length_cons];omega
 rcases Lib.lastIndexByte_spec ⟨(x++c::y).toArray⟩ c.toNat with⟨h1,h2⟩|⟨i,h1,h2,h3,h4⟩
 ·exfalso
  refine h2 x.length (by rw [sz];omega) ?_
  rw [at_ _ (by omega),List.getD_eq_getElem?_getD,vz];rfl
 ·rw [h2]
  rw [sz]at h1 h4
  rcases Nat.lt_trichotomy i x.length with h5|h5|h5
  ·exfalso
   refine h4 x.length h5 (by omega) ?_
   rw [at_ _ (by omega),List.getD_eq_getElem?_getD,vz];rfl
  ·rw [h5]
  ·exfalso
   rw [at_ _ h1,List.getD_eq_getElem?_getD,List.getElem?_eq_getElem h1]at h3
   have e:(x++c::y)[i]=c:=UInt8.toNat_inj.1 (by have:(((x++c::y)[i]).toNat:Int)=c.toNat:=h3;omega)
   obtain ⟨k,hk⟩:∃k,i=x.length+1+k:=⟨i-x.length-1,by omega⟩
   have e2:(x++c::y)[i]?=y[k]?:=by
    rw [hk,List.getElem?_append_right (by omega),show x.length+1+k-x.length=k+1 by omega,List.getElem?_cons_succ]
   rw [List.getElem?_eq_getElem h1,e]at e2
   exact h (List.mem_of_getElem? e2.symm)
theorem DM {a b:Bs}(h:bO a=true):bP (a++b)=a++bP b:=by
 have h1:=(qe _ a b (Nat.le_refl _) h).1
 have h2:=gi h
 unfold bP at *
 rw [h1,ob,h2]
theorem iK {a b:Bs}(h:bO a=true):bO (a++b)=bO b:=(qe _ a b (Nat.le_refl _) h).2
theorem yc(k:Int){a b:Bs}(h:bO a=true):aU k (a++b)=aU k a++aU k b:=by
 have h2:=gi h
 unfold aU
 rw [DM h,h2]
 split
 ·rw [jK]
 ·rfl
def tM(p:Bs):Prop:=∀b∈p,32<b.toNat∧b≠47∧b≠92∧b≠63∧b≠35
def rk:Bs:=[104,116,116,112,115]
def yd(X:Bs):RS:={RS.init X with sc:=rk,sp:=true,bare:=false}
theorem oI(Y:Bs)(hv:bO Y=true)(hy:∀b∈Y,32<b.toNat)(hne:∃b t,Y=b::t∧b≠47∧b≠92):bz (rk++58::47::47::Y)=Ld (yd Y).b7:=by
 have hst:an (rk++58::47::47::Y)=rk++58::47::47::Y:=by
  refine FH ?_ fun b hb=>?_
  ·have e:rk++58::47::47::Y=(rk++[58,47,47])++Y:=by simp
   rw [e,iK (by decide+kernel)];exact hv
  ·rcases List.mem_append.1 hb with h|h
   ·exact (show ∀b∈rk,32<b.toNat by decide) b h
   ·rcases List.mem_cons.1 h with rfl|h
    ·decide
    rcases List.mem_cons.1 h with rfl|h
    ·decide
    rcases List.mem_cons.1 h with rfl|h
    ·decide
    exact hy b h
 have hp0:=rH (l:=rk++58::47::47::Y) (p:=rk) (r:=47::47::Y) rfl (by decide) (by decide) (by decide) (by decide)
 have hk:aB (47::47::Y:Bs).length true 0 (47::47::Y)=Y:=by
  rw [Bp 47 _ (.inl rfl) (.inl rfl),Bp 47 _ (.inl rfl) (.inl rfl)]
  refine Da ?_
  obtain ⟨b,t,rfl,h1,h2⟩:=hne
  unfold az
  have e:al (b::t) 0=b.toNat:=rfl
  have n1:¬(b.toNat:Int)=47:=fun e=>h1 (UInt8.toNat_inj.1 (by show b.toNat=47;omega))
  have n2:¬(b.toNat:Int)=92:=fun e=>h2 (UInt8.toNat_inj.1 (by show b.toNat=92;omega))
  rw [e,decide_eq_false n1,decide_eq_false n2]
  cases decide ((0:Int)<ak (b::t:Bs))<;>rfl
 have e0:({RS.init (47::47::Y)with sc:=cc rk,sp:=true,bare:=false}:RS).skip=yd Y:=by
  show({RS.init (47::47::Y)with sc:=rk,sp:=true,bare:=false,rst:=aB (47::47::Y:Bs).length true 0 (47::47::Y)}:RS)=_
  rw [hk];rfl
 unfold bz
 rw [hst,hp0,e0]
theorem tI {s g:Bs}(hs:tM s)(hg:tM g):ah true (s++64::(g++[47]))=(s++64::g).length:=by
 have e:s++64::(g++[47])=(s++64::g)++47::[]:=by simp
 unfold ah
 rw [e]
 refine FF (fun b hb=>?_) rfl
 have:b≠47∧b≠92∧b≠63∧b≠35:=by
  rcases List.mem_append.1 hb with h|h
  ·exact (hs b h).2
  ·rcases List.mem_cons.1 h with rfl|h
   ·decide
   ·exact (hg b h).2
 simp [eO,this]
theorem Ax {s:Bs}(hs:tM s):(yd (s++64::([104]++[47]))).aX=({yd [47]with us:=aU 5 (cK s 58),pw:=aU 5 (cU s 58),hk:=2,hs:=[104],hn:=0,hp:=z8},0):=by
 have he:ah (yd (s++64::([104]++[47]))).sp (yd (s++64::([104]++[47]))).rst=(s++64::[104]).length:=tI hs (by unfold tM;decide)
 have e:(yd (s++64::([104]++[47]))).rst=(s++64::[104])++[47]:=by show s++64::([104]++[47])=_;simp
 have hl:aF (s++64::[104]) 64=s.length:=yb (c:=64) (by decide)
 have hh:aN true [104]=(2,[104],0,z8,0):=by decide+kernel
 have hcz:bc [104]=-1:=rfl
 unfold RS.aX
 dsimp only
 rw [he,e,nA,hl,if_pos (by omega)]
 have d1:aa (s++64::[104]) ((s.length:Int)+1)=[104]:=by
  unfold aa
  rw [show((s.length:Int)+1).toNat=s.length+1 by omega,←List.drop_drop,List.drop_left];rfl
 have t1:ae (s++64::[104]) (s.length:Int)=s:=nA _ _
 rw [d1,t1,if_neg (by decide)]
 unfold RS.bM
 rw [hcz,if_neg (by rintro (h|⟨h,-⟩)<;>cases h)]
 dsimp only
 rw [if_neg (show ¬(0:Int)< -1 by decide),if_neg (show ¬(0:Int)< -1 by decide)]
 simp only [show ∀(X:Bs) (n:Int),(RS.cut (yd X) n).sp=true from fun _ _=>rfl,hh]
 rw [if_pos trivial]
 unfold RS.cut
 rw [e,C9]
 rfl
theorem Ay {s:Bs}(hs:tM s):(yd (s++64::([]++[47]))).aX.2=8:=by
 have he:ah (yd (s++64::([]++[47]))).sp (yd (s++64::([]++[47]))).rst=(s++64::[]).length:=tI hs (by unfold tM;decide)
 have e:(yd (s++64::([]++[47]))).rst=(s++64::[])++[47]:=by show s++64::([]++[47])=_;simp
 have hl:aF (s++64::[]) 64=s.length:=yb (c:=64) (by decide)
 unfold RS.aX
 dsimp only
 rw [he,e,nA,hl,if_pos (by omega)]
 have d1:aa (s++64::[]) ((s.length:Int)+1)=[]:=by
  unfold aa
  rw [show((s.length:Int)+1).toNat=s.length+1 by omega,←List.drop_drop,List.drop_left];rfl
 rw [d1,if_pos rfl]
theorem DN {s:Bs}(hs:tM s)(hv:bO s=true):
 (bz (rk++58::47::47::(s++64::[104,47]))).2=0∧(bz (rk++58::47::47::(s++64::[104,47]))).1.us=aU 5 (cK s 58)∧(bz (rk++58::47::47::(s++64::[104,47]))).1.pw=aU 5 (cU s 58)∧(bz (rk++58::47::47::(s++64::[104,47]))).1.hk=2∧(bz (rk++58::47::47::(s++64::[104,47]))).1.hs=[104]∧(bz (rk++58::47::47::(s++64::[104,47]))).1.hn=0∧(bz (rk++58::47::47::(s++64::[104,47]))).1.hp=z8∧
 (bz (rk++58::47::47::(s++64::[47]))).2=8:=by
 have hd:∀g:Bs,∃b t,s++64::g=b::t∧b≠47∧b≠92:=fun g=>by
  cases s with
  |nil=>exact ⟨64,g,rfl,by decide,by decide⟩
  |cons b t=>exact ⟨b,_,rfl,(hs b (List.mem_cons_self ..)).2.1,(hs b (List.mem_cons_self ..)).2.2.1⟩
 have hb:∀g:Bs,(∀b∈g,32<b.toNat)→∀b∈s++64::g,32<b.toNat:=fun g hg b hb=>by
  rcases List.mem_append.1 hb with h|h
  ·exact (hs b h).1
  ·rcases List.mem_cons.1 h with rfl|h
   ·decide
   ·exact hg b h
 have u1:=oI (s++64::[104,47]) (by rw [iK hv];decide+kernel) (hb _ (by decide)) (hd _)
 have u2:=oI (s++64::[47]) (by rw [iK hv];decide+kernel) (hb _ (by decide)) (hd _)
 have a1:(yd (s++64::[104,47])).aX=_:=Ax hs
 have a2:(yd (s++64::[47])).aX.2=8:=Ay hs
 obtain ⟨A,hA⟩:∃A:RS,A={yd [47]with us:=aU 5 (cK s 58),pw:=aU 5 (cU s 58),hk:=2,hs:=[104],hn:=0,hp:=z8}:=⟨_,rfl⟩
 rw [←hA]at a1
 have p1:(yd (s++64::[104,47])).b7=(A.shl.path.tail,0):=by
  unfold RS.b7
  rw [a1]
  dsimp only
  rw [if_pos rfl,if_neg (by rw [hA];rintro ⟨h,-⟩;cases h)]
 have p2:(yd (s++64::[47])).b7.2=8:=by
  unfold RS.b7
  rw [if_neg (by rw [a2];decide)];exact a2
 rw [u1,u2,p1]
 unfold Ld
 rw [if_pos rfl,if_neg (by rw [p2];decide),gT,hA]
 exact ⟨rfl,rfl,rfl,rfl,rfl,rfl,rfl,p2⟩
end Go.Proofs.YtmfapopclbnlpaaGreatDoor
