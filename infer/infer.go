// Package infer: the types of expressions: see DOC.md.
package infer

import "schemes/api"

// Show: the one text of an expression (P2).
func Show(src string) (string, error) {
	e, err := parse(src)
	if err != nil {
		return "", err
	}
	return show(e), nil
}

// Canon: the one text of a type (P3).
func Canon(typ string) (string, error) {
	t, err := parseType(typ)
	if err != nil {
		return "", err
	}
	return showType(t, namesInOrder()), nil
}

// Instance: by which types for its variables a type becomes another (P3).
func Instance(general string, special string) (map[string]api.Typed, error) {
	g, err := parseType(general)
	if err != nil {
		return nil, err
	}
	s, err := parseType(special)
	if err != nil {
		return nil, err
	}
	found := matching{}
	if !found.match(g, s) {
		return nil, api.ErrNot
	}
	return found, nil
}

// Infer: the type of an expression (P4, P5).
func Infer(src string, env map[string]api.Typed, fuel int) (string, error) {
	return Watch(src, env, fuel, nil)
}

// Watch: that, and each round of each group (P6).
func Watch(src string, env map[string]api.Typed, fuel int, each func(names []string, round int, schemes []string) bool) (string, error) {
	t, err := typing{fuel, each}.typeOfText(src, env)
	if err != nil {
		return "", err
	}
	return showType(t, namesInOrder()), nil
}
