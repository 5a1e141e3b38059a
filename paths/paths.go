// Package paths parts clean paths, and lays them together.
package paths

import "strings"

// Part tells the folder in which a path lies, and its name there.
func Part(p string) (string, string) {
	i := strings.LastIndexByte(p, '/')
	return p[:max(i, min(1, len(p)))], p[i+1:]
}

// Below tells the path of what a folder has.
func Below(folder string, name string) string {
	if folder == "/" {
		return "/" + name
	}
	return folder + "/" + name
}
