import Derived.Lib.ConvBytes
import Derived.Test.YtmfapopclbnlpaaGreatDoorHx7
import Derived.Test.YtmfapopclbnlpaaGreatDoorHx9
set_option linter.unusedVariables false
set_option linter.unusedSimpArgs false
namespace Go.Proofs.YtmfapopclbnlpaaGreatDoor
open Go.RowKit
section
theorem ph(w:World)(e:TypeId)(s:ByteArray):Below w.heap.size w (Lib.bytesWorld w e s):=
 ⟨rfl,rfl,rfl,by rw [Lib.bytesWorld_size];omega,fun k hk=>Lib.bytesWorld_at_old w e s k hk⟩
theorem sB(w:World)(e:TypeId)(l:List UInt8)(hl:l.length<=4611686018427387904):oH (Lib.bytesWorld w e ⟨l.toArray⟩) (.slice (some ⟨w.heap.size,0,none⟩) l.length (grownCap w l.length 0 e)) l:=by
 refine ⟨_,_,rfl,grownCap_ge _ _ _ _,grownCap_le_maxLen _ _ _ _ (by unfold maxLen;omega),(fun h=>by cases h),fun _=>⟨w.heap.size,0,rfl,fun i hi=>?_⟩⟩;rw [Nat.zero_add,Lib.bytesWorld_cell w e ⟨l.toArray⟩ i (by rw [gf];exact hi)];rfl
section
variable {P:Program} {ops:Array Oper} {rest:List Oper} {o:Oper} {a:Act} {Q:Exit->Act->World->Prop}
theorem cK(w:World)(hw:Region.wanted o (yielded ops a.tmps)=true)(s d:TypeId)(x:Operand)(hop:o.op=Op.convert s d x)(e:TypeId)
 (hs:P.underlying s=some .string)(hd:P.underlying d=some (.slice e))(he:P.underlying e=some (.int .u8))(l:List UInt8)(hx:a.eval x=.string ⟨l.toArray⟩)(hl:l.length<=4611686018427387904)
 (h:∀b cap w',oH w' (.slice (some ⟨b,0,none⟩) l.length cap) l->Below w.heap.size w w'->b=w.heap.size->wpList P ops Q rest (a.put o.dst (.slice (some ⟨b,0,none⟩) l.length cap)) w'):wpList P ops Q (o::rest) a w:=by
 refine fE hw fun K hK=>?_;have hrun:=Lib.run_convert_string_bytes (P:=P) w s d e ⟨l.toArray⟩ hs hd he;rw [gf]at hrun;unfold Oper.wp;simp [execOp,hop,hx,hrun,Result.andThen];exact hK _ _ (h _ _ _ (sB w e l hl) (ph w e _) rfl)
end
end
theorem nR {a a':Int}{c c':Bool}(h1:a=a')(h3:c=c'):Ending.returned (.tuple #[.int .u64 a,.bool c])=.returned (.tuple #[.int .u64 a',.bool c']):=by rw [h1,h3]
set_option maxRecDepth 100000 in
set_option maxHeartbeats 4000000 in
theorem C3(l:List UInt8)(w:World)(hm:l.length<=1000000):
 Calls Tryz.prog 191 #[.string ⟨l.toArray⟩] w fun e w'=>e=.returned (.tuple #[.int .u64 (cq l),.bool (cy l)])/\Below w.heap.size w w':=by
 have HR:=Lib.hid (qk l · hm);have hl0:=cB l 0;have hl1:=cG l 0;cases hp:eu l with
 |true=>
  have HR2:Hid (j7 l=l.drop 2):=Lib.hid (by unfold j7;rw [if_pos hp]);have HBA:Hid (eQ l=16):=Lib.hid (by unfold eQ;rw [if_pos hp]);have HBO:Hid (fN l=l.drop 2):=Lib.hid (by unfold fN;rw [if_pos hp]);have HFR:Hid ((eu l||decide (0<l.length))=true):=Lib.hid (by rw [hp];rfl);rw [hp,HR2.out]at HR;have hDl:(l.drop 2).length<=1000000:=by simp;omega
  obtain ⟨D,hD⟩:∃D,l.drop 2=D:=⟨_,rfl⟩;rw [hD]at HR HBO hDl;clear hp hD HR2;have hBl:D.length<=1000000:=by first|omega|(simp;omega)
  have HO:=Lib.hid (jN D 16 · hBl (by decide) (by decide));cases hob:aW 16 D with
  |false=>
   have H1:Hid (cy l=false):=Lib.hid (by unfold cy;rw [HBA.out,HBO.out,hob,Bool.and_false]);have H2:Hid (cq l=0):=Lib.hid (by unfold cq;rw [if_neg (by rw [H1.out];simp)]);rw [hob]at HO;clear hob
   go_enter Tryz.func191,Tryz.ntmps191
   go_wp2_with fail
   refine (HR.out _).mono ?_
   rintro e w' ⟨rfl,rfl⟩
   go_wp2_with fail
   refine (HO.out _).mono ?_
   rintro e w' ⟨rfl,rfl⟩
   go_wp2_with fail
   go_ret2
   exact ⟨nR H2.out.symm H1.out.symm,Below.refl _ _⟩
  |true=>
   have H1:Hid (cy l=true):=Lib.hid (by unfold cy;rw [HFR.out,HBA.out,HBO.out,hob];rfl);have H2:Hid (cq l=cX 16 0 D):=Lib.hid (by unfold cq;rw [if_pos H1.out,HBA.out,HBO.out]);have HAT:=Lib.hid (iR 16 D hob);have HBD:=Lib.hid (nK 16 (by decide) D (fun i hi=>(HAT.out i hi).1));have HTK:=Lib.hid (eB 16 D);rw [hob]at HO;clear hob
   go_enter Tryz.func191,Tryz.ntmps191
   go_wp2_with fail
   refine (HR.out _).mono ?_
   rintro e w' ⟨rfl,rfl⟩
   go_wp2_with fail
   refine (HO.out _).mono ?_
   rintro e w' ⟨rfl,rfl⟩
   go_wp2_with (refine cK _ (by rfl) 9 43 _ rfl 5 Tryz.underlying9 Tryz.underlying43 Tryz.underlying5 D rfl (by omega) ?_)
   intro b cap w1 h8 hb1 hbe;have HB1:=Lib.hid hb1;obtain ⟨pa,pc,hpe,q1,q2,-,q3⟩:=h8;injection hpe with e1 e2 e3
   subst e3;unfold maxLen at q2;have HC8:Hid (0<D.length->Cells w1 b 0 D.length (lU D)):=Lib.hid (fun h=>by
    obtain ⟨b2,o2,hh,hc⟩:=q3 h;rw [<-e1]at hh;injection hh with hh
    injection hh with g1 g2
    subst g1;subst g2;exact hc)
   clear hb1 hbe q3 e1 e2
   go_wp2_with fail
   go_loopw [7,9,34] (fun tv tc ti wr=>∃i:Nat,i<=D.length/\ti=.int .i64 i/\tv=.int .u64 (cX 16 0 (D.take i))/\wr=w1) (fun _ _ ti _=>D.length-(intOf ti).toNat)
   case atStart=>exact ⟨0,by omega,rfl,rfl,rfl⟩
   case round=>
    obtain ⟨i,hi,rfl,rfl,rfl⟩:=hrel;by_cases hlt:i<D.length
    ·have hcell:wr.cell? ⟨b,0+i,none⟩=some (.int .u8 (ar D i)):=(HC8.out (by omega)).at i hlt
     rw [Nat.zero_add]at hcell;have b0:=cB D i;have b1:=cG D i;obtain ⟨v0,v1⟩:=HBD.out i (by omega);obtain ⟨x0,x1⟩:=HAT.out i hlt;have HT:=Lib.hid (HTK.out i hlt);have HX:=Lib.hid (ka (ar D i) · b0 b1);obtain ⟨c,hc⟩:∃c,ar D i=c:=⟨_,rfl⟩;rw [hc]at hcell b0 b1 x0 x1 HT HX;clear hc;obtain ⟨v,hv⟩:∃v,cX 16 0 (D.take i)=v:=⟨_,rfl⟩;rw [hv]at v0 v1 HT;rw [hv];clear hv;have HST:Hid (gS 16 v c=min (v*16+aR c) 4294967296):=Lib.hid rfl;obtain ⟨x,hx⟩:∃x,aR c=x:=⟨_,rfl⟩;rw [hx]at x0 x1 HX HST;clear hx;by_cases hmn:v*16+x<=4294967296
     ·have H3:Hid (cX 16 0 (D.take (i+1))=v*16+x):=Lib.hid (by rw [HT.out,HST.out];omega)
      go_wp2_with fail
      refine (HX.out _).mono ?_
      rintro e w' ⟨rfl,rfl⟩
      go_wp2_with fail
      exact ⟨⟨i+1,by omega,by go_num,by rw [H3.out],by trivial⟩,by simp [intOf];omega⟩
     ·have H3:Hid (cX 16 0 (D.take (i+1))=4294967296):=Lib.hid (by rw [HT.out,HST.out];omega)
      go_wp2_with fail
      refine (HX.out _).mono ?_
      rintro e w' ⟨rfl,rfl⟩
      go_wp2_with fail
      exact ⟨⟨i+1,by omega,by go_num,by rw [H3.out],by trivial⟩,by simp [intOf];omega⟩
    ·obtain rfl:i=D.length:=by omega
     rw [List.take_length]
     go_wp2_with fail
     go_ret2
     exact ⟨nR H2.out.symm H1.out.symm,HB1.out⟩
 |false=>
  have HR2:Hid (j7 l=[]):=Lib.hid (by unfold j7;rw [if_neg (by rw [hp];simp)]);have HBO:Hid (fN l=l):=Lib.hid (by unfold fN;rw [if_neg (by rw [hp];simp)]);have HP:=Lib.hid hp;rw [hp,HR2.out]at HR;clear hp;by_cases h0:l=[]
  ·subst h0
   have H1:Hid (cy []=false):=Lib.hid (by decide);have H2:Hid (cq []=0):=Lib.hid (by unfold cq;rw [if_neg (by rw [H1.out];simp)]);clear hl0 hl1
   go_enter Tryz.func191,Tryz.ntmps191
   go_wp2_with fail
   refine (HR.out _).mono ?_
   rintro e w' ⟨rfl,rfl⟩
   go_wp2_with fail
   go_ret2
   exact ⟨nR H2.out.symm H1.out.symm,Below.refl _ _⟩
  ·have hlen:0<l.length:=List.length_pos_iff.2 h0
   have g1:(l==[])=false:=by rw [beq_eq_false_iff_ne];exact h0
   have g2:l.isEmpty=false:=by rw [List.isEmpty_eq_false_iff];exact h0
   have HFR:Hid ((eu l||decide (0<l.length))=true):=Lib.hid (by rw [HP.out,decide_eq_true hlen];rfl);clear h0;by_cases h1:1<l.length
   ·have h1I:(1:Int)<(l.length:Int):=by omega
    by_cases h2:ar l 0=48
    ·have HBA:Hid (eQ l=8):=Lib.hid (by unfold eQ;rw [if_neg (by rw [HP.out];simp),if_pos ⟨h1,h2⟩])
     have e2:(ar l 0==48)=true:=by rw [beq_iff_eq];exact h2
     clear h2;have hBl:l.length<=1000000:=by first|omega|(simp;omega)
     have HO:=Lib.hid (jN l 8 · hBl (by decide) (by decide));cases hob:aW 8 l with
     |false=>
      have H1:Hid (cy l=false):=Lib.hid (by unfold cy;rw [HBA.out,HBO.out,hob,Bool.and_false]);have H2:Hid (cq l=0):=Lib.hid (by unfold cq;rw [if_neg (by rw [H1.out];simp)]);rw [hob]at HO;clear hob
      go_enter Tryz.func191,Tryz.ntmps191
      go_wp2_with fail
      refine (HR.out _).mono ?_
      rintro e w' ⟨rfl,rfl⟩
      go_wp2_with fail
      refine (HO.out _).mono ?_
      rintro e w' ⟨rfl,rfl⟩
      go_wp2_with fail
      go_ret2
      exact ⟨nR H2.out.symm H1.out.symm,Below.refl _ _⟩
     |true=>
      have H1:Hid (cy l=true):=Lib.hid (by unfold cy;rw [HFR.out,HBA.out,HBO.out,hob];rfl);have H2:Hid (cq l=cX 8 0 l):=Lib.hid (by unfold cq;rw [if_pos H1.out,HBA.out,HBO.out]);have HAT:=Lib.hid (iR 8 l hob);have HBD:=Lib.hid (nK 8 (by decide) l (fun i hi=>(HAT.out i hi).1));have HTK:=Lib.hid (eB 8 l);rw [hob]at HO;clear hob
      go_enter Tryz.func191,Tryz.ntmps191
      go_wp2_with fail
      refine (HR.out _).mono ?_
      rintro e w' ⟨rfl,rfl⟩
      go_wp2_with fail
      refine (HO.out _).mono ?_
      rintro e w' ⟨rfl,rfl⟩
      go_wp2_with (refine cK _ (by rfl) 9 43 _ rfl 5 Tryz.underlying9 Tryz.underlying43 Tryz.underlying5 l rfl (by omega) ?_)
      intro b cap w1 h8 hb1 hbe;have HB1:=Lib.hid hb1;obtain ⟨pa,pc,hpe,q1,q2,-,q3⟩:=h8;injection hpe with e1 e2 e3
      subst e3;unfold maxLen at q2;have HC8:Hid (0<l.length->Cells w1 b 0 l.length (lU l)):=Lib.hid (fun h=>by
       obtain ⟨b2,o2,hh,hc⟩:=q3 h;rw [<-e1]at hh;injection hh with hh
       injection hh with g1 g2
       subst g1;subst g2;exact hc)
      clear hb1 hbe q3 e1 e2
      go_wp2_with fail
      go_loopw [7,9,34] (fun tv tc ti wr=>∃i:Nat,i<=l.length/\ti=.int .i64 i/\tv=.int .u64 (cX 8 0 (l.take i))/\wr=w1) (fun _ _ ti _=>l.length-(intOf ti).toNat)
      case atStart=>exact ⟨0,by omega,rfl,rfl,rfl⟩
      case round=>
       obtain ⟨i,hi,rfl,rfl,rfl⟩:=hrel;by_cases hlt:i<l.length
       ·have hcell:wr.cell? ⟨b,0+i,none⟩=some (.int .u8 (ar l i)):=(HC8.out (by omega)).at i hlt
        rw [Nat.zero_add]at hcell;have b0:=cB l i;have b1:=cG l i;obtain ⟨v0,v1⟩:=HBD.out i (by omega);obtain ⟨x0,x1⟩:=HAT.out i hlt;have HT:=Lib.hid (HTK.out i hlt);have HX:=Lib.hid (ka (ar l i) · b0 b1);obtain ⟨c,hc⟩:∃c,ar l i=c:=⟨_,rfl⟩;rw [hc]at hcell b0 b1 x0 x1 HT HX;clear hc;obtain ⟨v,hv⟩:∃v,cX 8 0 (l.take i)=v:=⟨_,rfl⟩;rw [hv]at v0 v1 HT;rw [hv];clear hv;have HST:Hid (gS 8 v c=min (v*8+aR c) 4294967296):=Lib.hid rfl;obtain ⟨x,hx⟩:∃x,aR c=x:=⟨_,rfl⟩;rw [hx]at x0 x1 HX HST;clear hx;by_cases hmn:v*8+x<=4294967296
        ·have H3:Hid (cX 8 0 (l.take (i+1))=v*8+x):=Lib.hid (by rw [HT.out,HST.out];omega)
         go_wp2_with fail
         refine (HX.out _).mono ?_
         rintro e w' ⟨rfl,rfl⟩
         go_wp2_with fail
         exact ⟨⟨i+1,by omega,by go_num,by rw [H3.out],by trivial⟩,by simp [intOf];omega⟩
        ·have H3:Hid (cX 8 0 (l.take (i+1))=4294967296):=Lib.hid (by rw [HT.out,HST.out];omega)
         go_wp2_with fail
         refine (HX.out _).mono ?_
         rintro e w' ⟨rfl,rfl⟩
         go_wp2_with fail
         exact ⟨⟨i+1,by omega,by go_num,by rw [H3.out],by trivial⟩,by simp [intOf];omega⟩
       ·obtain rfl:i=l.length:=by omega
        rw [List.take_length]
        go_wp2_with fail
        go_ret2
        exact ⟨nR H2.out.symm H1.out.symm,HB1.out⟩
    ·have HBA:Hid (eQ l=10):=Lib.hid (by unfold eQ;rw [if_neg (by rw [HP.out];simp),if_neg (by omega)])
     have e2:(ar l 0==48)=false:=by rw [beq_eq_false_iff_ne];exact h2
     clear h2;have hBl:l.length<=1000000:=by first|omega|(simp;omega)
     have HO:=Lib.hid (jN l 10 · hBl (by decide) (by decide));cases hob:aW 10 l with
     |false=>
      have H1:Hid (cy l=false):=Lib.hid (by unfold cy;rw [HBA.out,HBO.out,hob,Bool.and_false]);have H2:Hid (cq l=0):=Lib.hid (by unfold cq;rw [if_neg (by rw [H1.out];simp)]);rw [hob]at HO;clear hob
      go_enter Tryz.func191,Tryz.ntmps191
      go_wp2_with fail
      refine (HR.out _).mono ?_
      rintro e w' ⟨rfl,rfl⟩
      go_wp2_with fail
      refine (HO.out _).mono ?_
      rintro e w' ⟨rfl,rfl⟩
      go_wp2_with fail
      go_ret2
      exact ⟨nR H2.out.symm H1.out.symm,Below.refl _ _⟩
     |true=>
      have H1:Hid (cy l=true):=Lib.hid (by unfold cy;rw [HFR.out,HBA.out,HBO.out,hob];rfl);have H2:Hid (cq l=cX 10 0 l):=Lib.hid (by unfold cq;rw [if_pos H1.out,HBA.out,HBO.out]);have HAT:=Lib.hid (iR 10 l hob);have HBD:=Lib.hid (nK 10 (by decide) l (fun i hi=>(HAT.out i hi).1));have HTK:=Lib.hid (eB 10 l);rw [hob]at HO;clear hob
      go_enter Tryz.func191,Tryz.ntmps191
      go_wp2_with fail
      refine (HR.out _).mono ?_
      rintro e w' ⟨rfl,rfl⟩
      go_wp2_with fail
      refine (HO.out _).mono ?_
      rintro e w' ⟨rfl,rfl⟩
      go_wp2_with (refine cK _ (by rfl) 9 43 _ rfl 5 Tryz.underlying9 Tryz.underlying43 Tryz.underlying5 l rfl (by omega) ?_)
      intro b cap w1 h8 hb1 hbe;have HB1:=Lib.hid hb1;obtain ⟨pa,pc,hpe,q1,q2,-,q3⟩:=h8;injection hpe with e1 e2 e3
      subst e3;unfold maxLen at q2;have HC8:Hid (0<l.length->Cells w1 b 0 l.length (lU l)):=Lib.hid (fun h=>by
       obtain ⟨b2,o2,hh,hc⟩:=q3 h;rw [<-e1]at hh;injection hh with hh
       injection hh with g1 g2
       subst g1;subst g2;exact hc)
      clear hb1 hbe q3 e1 e2
      go_wp2_with fail
      go_loopw [7,9,34] (fun tv tc ti wr=>∃i:Nat,i<=l.length/\ti=.int .i64 i/\tv=.int .u64 (cX 10 0 (l.take i))/\wr=w1) (fun _ _ ti _=>l.length-(intOf ti).toNat)
      case atStart=>exact ⟨0,by omega,rfl,rfl,rfl⟩
      case round=>
       obtain ⟨i,hi,rfl,rfl,rfl⟩:=hrel;by_cases hlt:i<l.length
       ·have hcell:wr.cell? ⟨b,0+i,none⟩=some (.int .u8 (ar l i)):=(HC8.out (by omega)).at i hlt
        rw [Nat.zero_add]at hcell;have b0:=cB l i;have b1:=cG l i;obtain ⟨v0,v1⟩:=HBD.out i (by omega);obtain ⟨x0,x1⟩:=HAT.out i hlt;have HT:=Lib.hid (HTK.out i hlt);have HX:=Lib.hid (ka (ar l i) · b0 b1);obtain ⟨c,hc⟩:∃c,ar l i=c:=⟨_,rfl⟩;rw [hc]at hcell b0 b1 x0 x1 HT HX;clear hc;obtain ⟨v,hv⟩:∃v,cX 10 0 (l.take i)=v:=⟨_,rfl⟩;rw [hv]at v0 v1 HT;rw [hv];clear hv;have HST:Hid (gS 10 v c=min (v*10+aR c) 4294967296):=Lib.hid rfl;obtain ⟨x,hx⟩:∃x,aR c=x:=⟨_,rfl⟩;rw [hx]at x0 x1 HX HST;clear hx;by_cases hmn:v*10+x<=4294967296
        ·have H3:Hid (cX 10 0 (l.take (i+1))=v*10+x):=Lib.hid (by rw [HT.out,HST.out];omega)
         go_wp2_with fail
         refine (HX.out _).mono ?_
         rintro e w' ⟨rfl,rfl⟩
         go_wp2_with fail
         exact ⟨⟨i+1,by omega,by go_num,by rw [H3.out],by trivial⟩,by simp [intOf];omega⟩
        ·have H3:Hid (cX 10 0 (l.take (i+1))=4294967296):=Lib.hid (by rw [HT.out,HST.out];omega)
         go_wp2_with fail
         refine (HX.out _).mono ?_
         rintro e w' ⟨rfl,rfl⟩
         go_wp2_with fail
         exact ⟨⟨i+1,by omega,by go_num,by rw [H3.out],by trivial⟩,by simp [intOf];omega⟩
       ·obtain rfl:i=l.length:=by omega
        rw [List.take_length]
        go_wp2_with fail
        go_ret2
        exact ⟨nR H2.out.symm H1.out.symm,HB1.out⟩
   ·have h1I:¬(1:Int)<(l.length:Int):=by omega
    have HBA:Hid (eQ l=10):=Lib.hid (by unfold eQ;rw [if_neg (by rw [HP.out];simp),if_neg (by omega)]);have hBl:l.length<=1000000:=by first|omega|(simp;omega)
    have HO:=Lib.hid (jN l 10 · hBl (by decide) (by decide));cases hob:aW 10 l with
    |false=>
     have H1:Hid (cy l=false):=Lib.hid (by unfold cy;rw [HBA.out,HBO.out,hob,Bool.and_false]);have H2:Hid (cq l=0):=Lib.hid (by unfold cq;rw [if_neg (by rw [H1.out];simp)]);rw [hob]at HO;clear hob
     go_enter Tryz.func191,Tryz.ntmps191
     go_wp2_with fail
     refine (HR.out _).mono ?_
     rintro e w' ⟨rfl,rfl⟩
     go_wp2_with fail
     refine (HO.out _).mono ?_
     rintro e w' ⟨rfl,rfl⟩
     go_wp2_with fail
     go_ret2
     exact ⟨nR H2.out.symm H1.out.symm,Below.refl _ _⟩
    |true=>
     have H1:Hid (cy l=true):=Lib.hid (by unfold cy;rw [HFR.out,HBA.out,HBO.out,hob];rfl);have H2:Hid (cq l=cX 10 0 l):=Lib.hid (by unfold cq;rw [if_pos H1.out,HBA.out,HBO.out]);have HAT:=Lib.hid (iR 10 l hob);have HBD:=Lib.hid (nK 10 (by decide) l (fun i hi=>(HAT.out i hi).1));have HTK:=Lib.hid (eB 10 l);rw [hob]at HO;clear hob
     go_enter Tryz.func191,Tryz.ntmps191
     go_wp2_with fail
     refine (HR.out _).mono ?_
     rintro e w' ⟨rfl,rfl⟩
     go_wp2_with fail
     refine (HO.out _).mono ?_
     rintro e w' ⟨rfl,rfl⟩
     go_wp2_with (refine cK _ (by rfl) 9 43 _ rfl 5 Tryz.underlying9 Tryz.underlying43 Tryz.underlying5 l rfl (by omega) ?_)
     intro b cap w1 h8 hb1 hbe;have HB1:=Lib.hid hb1;obtain ⟨pa,pc,hpe,q1,q2,-,q3⟩:=h8;injection hpe with e1 e2 e3
     subst e3;unfold maxLen at q2;have HC8:Hid (0<l.length->Cells w1 b 0 l.length (lU l)):=Lib.hid (fun h=>by
      obtain ⟨b2,o2,hh,hc⟩:=q3 h;rw [<-e1]at hh;injection hh with hh
      injection hh with g1 g2
      subst g1;subst g2;exact hc)
     clear hb1 hbe q3 e1 e2
     go_wp2_with fail
     go_loopw [7,9,34] (fun tv tc ti wr=>∃i:Nat,i<=l.length/\ti=.int .i64 i/\tv=.int .u64 (cX 10 0 (l.take i))/\wr=w1) (fun _ _ ti _=>l.length-(intOf ti).toNat)
     case atStart=>exact ⟨0,by omega,rfl,rfl,rfl⟩
     case round=>
      obtain ⟨i,hi,rfl,rfl,rfl⟩:=hrel;by_cases hlt:i<l.length
      ·have hcell:wr.cell? ⟨b,0+i,none⟩=some (.int .u8 (ar l i)):=(HC8.out (by omega)).at i hlt
       rw [Nat.zero_add]at hcell;have b0:=cB l i;have b1:=cG l i;obtain ⟨v0,v1⟩:=HBD.out i (by omega);obtain ⟨x0,x1⟩:=HAT.out i hlt;have HT:=Lib.hid (HTK.out i hlt);have HX:=Lib.hid (ka (ar l i) · b0 b1);obtain ⟨c,hc⟩:∃c,ar l i=c:=⟨_,rfl⟩;rw [hc]at hcell b0 b1 x0 x1 HT HX;clear hc;obtain ⟨v,hv⟩:∃v,cX 10 0 (l.take i)=v:=⟨_,rfl⟩;rw [hv]at v0 v1 HT;rw [hv];clear hv;have HST:Hid (gS 10 v c=min (v*10+aR c) 4294967296):=Lib.hid rfl;obtain ⟨x,hx⟩:∃x,aR c=x:=⟨_,rfl⟩;rw [hx]at x0 x1 HX HST;clear hx;by_cases hmn:v*10+x<=4294967296
       ·have H3:Hid (cX 10 0 (l.take (i+1))=v*10+x):=Lib.hid (by rw [HT.out,HST.out];omega)
        go_wp2_with fail
        refine (HX.out _).mono ?_
        rintro e w' ⟨rfl,rfl⟩
        go_wp2_with fail
        exact ⟨⟨i+1,by omega,by go_num,by rw [H3.out],by trivial⟩,by simp [intOf];omega⟩
       ·have H3:Hid (cX 10 0 (l.take (i+1))=4294967296):=Lib.hid (by rw [HT.out,HST.out];omega)
        go_wp2_with fail
        refine (HX.out _).mono ?_
        rintro e w' ⟨rfl,rfl⟩
        go_wp2_with fail
        exact ⟨⟨i+1,by omega,by go_num,by rw [H3.out],by trivial⟩,by simp [intOf];omega⟩
      ·obtain rfl:i=l.length:=by omega
       rw [List.take_length]
       go_wp2_with fail
       go_ret2
       exact ⟨nR H2.out.symm H1.out.symm,HB1.out⟩
def qW(c n:Int):Int:=if n<=aR c then -1 else aR c
theorem sC(c:Int):(48<=c/\c<=57/\aR c=c-48)\/(97<=c/\c<=102/\aR c=c-87)\/(65<=c/\c<=70/\aR c=c-55)\/(c<48/\aR c=-1)\/(57<c/\c<65/\aR c=-1)\/(70<c/\c<97/\aR c=-1)\/(102<c/\aR c=-1):=by
 unfold aR;(repeat' split)<;>omega
set_option maxHeartbeats 2000000 in
theorem iS(c n:Int)(w:World)(h0:0<=c)(h1:c<=255)(hn:1<=n)(hn2:n<=100):
 Calls Tryz.prog 99 #[.int .u8 c,.int .i64 n] w fun e w'=>e=.returned (.int .i64 (qW c n))/\w=w':=by
 have HD:Hid (qW c n=if n<=aR c then -1 else aR c):=Lib.hid rfl
 rcases sC c with⟨a1,a2,hx⟩|⟨a1,a2,hx⟩|⟨a1,a2,hx⟩|⟨a1,hx⟩|⟨a1,a2,hx⟩|⟨a1,a2,hx⟩|⟨a1,hx⟩
 all_goals
  rw [hx]at HD;clear hx
  go_enter Tryz.func99,Tryz.ntmps99
  go_wp2_with fail
  all_goals
   go_ret
   refine ⟨JQ ?_,by trivial⟩;rw [HD.out]
   first|rfl|(rw [if_pos (by omega)];done)|(rw [if_neg (by omega)];omega)|(rw [if_neg (by omega)])
def aF(l:List UInt8):List UInt8:=gA (dv l)
theorem iu {l:List UInt8}(h:dU l=true):aF l=l:=vF _ l (Nat.le_refl _) h
theorem Pe:∀(n:Nat) (l:List UInt8),l.length<=n->∀r∈dv l,0<=r/\r<=1114111:=by
 intro n
 induction n with
 |zero=>intro l h r hr;rw [dV (by omega)]at hr;simp at hr
 |succ n ih=>
  intro l h r hr;by_cases h0:l.length=0
  ·rw [dV h0]at hr;simp at hr
  ·have hn:=eJ l (by omega)
   rw [dW (by omega)]at hr;rcases List.mem_cons.1 hr with rfl|hr
   ·exact My l
   ·exact ih _ (by simp;omega) r hr
theorem Ff(l:List UInt8)(i:Nat)(hi:i<(dv l).length):-2147483648<=(dv l).getD i 0/\(dv l).getD i 0<=2147483647:=by
 have:=Pe _ l (Nat.le_refl _) ((dv l)[i]) (List.getElem_mem _);rw [List.getD_eq_getElem?_getD,List.getElem?_eq_getElem hi];show _ <=(dv l)[i]/\(dv l)[i]<=_;omega
set_option maxHeartbeats 1000000 in
theorem pj(l:List UInt8)(w:World)(hm:l.length<=1000000):
 Calls Tryz.prog 41 #[.string ⟨l.toArray⟩] w fun e w'=>e=.returned (.string ⟨(aF l).toArray⟩)/\Below w.heap.size w w':=by
 cases hv:dU l with
 |true=>
  have HP:=Lib.hid (iu hv);have HV:=Lib.hid hv;clear hv
  go_enter Tryz.func41,Tryz.ntmps41
  go_wp2_with (refine cK _ (by rfl) 9 43 _ rfl 5 Tryz.underlying9 Tryz.underlying43 Tryz.underlying5 l rfl (by omega) ?_)
  intro b cap w1 h8 hb1 hbe;have H8:=Lib.hid h8;have HB1:=Lib.hid hb1;clear h8 hb1 hbe
  go_wp2_with fail
  refine (vO _ l _ H8.out hm).mono ?_
  rintro e w2 ⟨rfl,k,rfl⟩
  rw [HV.out]
  go_wp2_with fail
  go_ret
  exact ⟨by rw [HP.out];rfl,bC HB1.out (cJ _ _)⟩
 |false=>
  have HV:=Lib.hid hv;have hd:=kR _ l (Nat.le_refl _);clear hv
  go_enter Tryz.func41,Tryz.ntmps41
  go_wp2_with (refine cK _ (by rfl) 9 43 _ rfl 5 Tryz.underlying9 Tryz.underlying43 Tryz.underlying5 l rfl (by omega) ?_)
  intro b cap w1 h8 hb1 hbe;have H8:=Lib.hid h8;have HB1:=Lib.hid hb1;clear h8 hb1 hbe
  go_wp2_with fail
  refine (vO _ l _ H8.out hm).mono ?_
  rintro e w2 ⟨rfl,k,rfl⟩
  rw [HV.out]
  go_wp2_with (refine cK _ (by rfl) 9 43 _ rfl 5 Tryz.underlying9 Tryz.underlying43 Tryz.underlying5 l rfl (by omega) ?_)
  intro b2 cap2 w3 h83 hb3 hbe3;have H83:=Lib.hid h83;have HB3:=Lib.hid hb3;clear h83 hb3 hbe3
  go_wp2_with fail
  refine (CX _ l _ H83.out hm).mono ?_
  rintro e w4 ⟨v4,rfl,hown4,hb4⟩
  have HO4:=Lib.hid hown4;have HB4:=Lib.hid hb4;clear hown4 hb4
  go_wp2_with fail
  refine (CY _ (dv l) _ HO4.out.Qf (by omega) (Ff l)).mono ?_
  rintro e w5 ⟨v5,rfl,hown5,hb5⟩
  have H85:=Lib.hid hown5.Qs;have HB5:=Lib.hid hb5;clear hown5 hb5
  go_wp2_with (refine im _ (by rfl) 43 9 _ rfl 5 Tryz.underlying43 Tryz.underlying5 Tryz.underlying9 _ rfl (gA (dv l)) H85.out ?_)
  go_ret
  exact ⟨rfl,bC (bC HB1.out (cJ _ k)) (bC HB3.out (bC HB4.out HB5.out))⟩
end Go.Proofs.YtmfapopclbnlpaaGreatDoor
